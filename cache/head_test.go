package cache_test

import (
	"strings"
	"testing"

	"ledger/api"
	"ledger/disk"
)

func TestSetHead(t *testing.T) { // P16.2, P16.3: old against what Head answers, byte by byte; the length; five acts for every head, one of no bytes too
	p := newPair(t, space)
	p.open("a", 2)
	most := strings.Repeat("m", 65536)
	for _, x := range []struct {
		old, next string
		e         api.Errno
	}{
		{"x", "y", api.ErrMoved}, {"", "x", api.OK}, {"", "y", api.ErrMoved}, {"X", "y", api.ErrMoved}, {"x ", "y", api.ErrMoved}, {"xx", "y", api.ErrMoved}, {"x", "x", api.OK}, {"x", "\x00", api.OK}, {"", "z", api.ErrMoved}, {"\x00", "", api.OK}, {"\x00", "z", api.ErrMoved}, {"", "", api.OK},
		{"", most, api.OK}, {most, most + "m", api.ErrLong}, {most + "m", most + "m", api.ErrMoved}, {"", most + "m", api.ErrMoved}, {most[1:], "z", api.ErrMoved}, {most, strings.Repeat("l", 1<<21), api.ErrLong}, {most, "end", api.OK},
	} {
		n := 0
		if x.e == api.OK {
			n = 5
		}
		acts(t, "SetHead", p.d, n, func() {
			if e := p.setHead(x.old, x.next); e != x.e {
				t.Errorf("SetHead(%.20q, %.20q) = %d; want %d", x.old, x.next, int(e), int(x.e))
			}
		})
		if p.d.Pending() != 0 {
			t.Errorf("SetHead(%.20q, %.20q) leaves %d pending", x.old, x.next, p.d.Pending())
		}
	}
	hasNames(t, "behind all", p.d, "cache/a/head")
	hasHead(t, "behind all", p.c, "end")
}

func TestSetHeadRefuses(t *testing.T) { // P16.3, P0.1: ErrMoved, ErrLong, ErrDead, ErrMoved, in this order
	long := make([]byte, 65537)
	d, c := begun(t, 2)
	c.SetHead(nil, []byte("x"))
	d.Write("cache/a/head", 0, []byte("y"))
	acts(t, "SetHead", d, 0, func() {
		want(t, "another old", c.SetHead([]byte("y"), long), api.ErrMoved)
		want(t, "too long", c.SetHead([]byte("x"), long), api.ErrLong)
		want(t, "another file", c.SetHead([]byte("x"), []byte("z")), api.ErrMoved)
	})
	d.Crash(nil)
	want(t, "another old, dead", c.SetHead([]byte("y"), long), api.ErrMoved)
	want(t, "too long, dead", c.SetHead([]byte("x"), long), api.ErrLong)
	want(t, "dead, another file", c.SetHead([]byte("x"), []byte("z")), api.ErrDead)
	hasHead(t, "dead", c, "x")
}

func TestHeadMovedByOthers(t *testing.T) { // P16.3: the head's file is asked each time; no file and one without bytes are the same
	const name = "cache/a/head"
	write := func(data string) func(*disk.Disk) {
		return func(d *disk.Disk) { d.Create(name); d.Write(name, 0, []byte(data)) }
	}
	remove := func(d *disk.Disk) { d.Remove(name) }
	for i, x := range []struct {
		head   string
		others func(*disk.Disk)
		e      api.Errno
	}{
		{"x", write("y"), api.ErrMoved}, {"x", write("xx"), api.ErrMoved}, {"xx", write("x"), api.ErrMoved}, {"x", write(""), api.ErrMoved}, {"x", remove, api.ErrMoved}, {"x", write("x"), api.OK},
		{"", write("y"), api.ErrMoved}, {"", write(""), api.OK}, {"", remove, api.OK},
	} {
		p := newPair(t, space)
		p.open("a", 2)
		p.setHead("", x.head)
		p.both(x.others)
		if e := p.setHead(x.head, "z"); e != x.e {
			t.Errorf("case %d: SetHead = %d; want %d", i, int(e), int(x.e))
		}
		if x.e == api.ErrMoved {
			hasHead(t, "moved", p.c, x.head) // Head answers what it did
		}
	}
	p := newPair(t, space)
	p.open("a", 2)
	p.both(write("y"))
	hasHead(t, "written by others", p.c, "")
	if e := p.setHead("y", "z"); e != api.ErrMoved {
		t.Errorf("SetHead of what lies there = %d", int(e))
	}
}

func TestTwoSessions(t *testing.T) { // P16.3, P16.10: of two of one name the second is told that the head was moved
	d, a := begun(t, 2)
	b, other := opened(t, d, "a", 2), opened(t, d, "ab", 2)
	want(t, "the first", a.SetHead(nil, []byte("x")), api.OK)
	want(t, "the second", b.SetHead(nil, []byte("y")), api.ErrMoved)
	want(t, "of another name", other.SetHead(nil, []byte("z")), api.OK)
	hasHead(t, "the second", b, "")
	want(t, "the first again", a.SetHead([]byte("x"), nil), api.OK)
	want(t, "the second again", b.SetHead(nil, []byte("y")), api.OK)
	want(t, "the first behind it", a.SetHead(nil, []byte("w")), api.ErrMoved)
}

func TestSetHeadDoesTheseActs(t *testing.T) { // P16.3: each in its turn, whichever fails and however; Head answers what it did
	for _, next := range []string{"yyy", ""} {
		for _, fault := range faults() {
			for n := range 7 {
				p := newPair(t, space, file("head", []byte("xx")), file("other", nil), disk.File{Name: "head", Data: []byte("log")})
				p.open("a", 2)
				p.fail(n, fault)
				e := p.setHead("xx", next)
				if failed := n >= 1 && n <= 5; failed && e != fault || !failed && e != api.OK {
					t.Fatalf("SetHead with act %d failing = %d", n, int(e))
				}
				if e != api.OK {
					hasHead(t, "SetHead with a fault", p.c, "xx")
				}
				if fault != api.ErrDead {
					p.fail(0, fault)
					if e := p.setHead("xx", "zz"); n >= 1 && n < 5 && e != api.OK {
						t.Errorf("SetHead behind one that failed at act %d = %d", n, int(e))
					}
				}
				p.agreeBehindCrashes("SetHead")
			}
		}
	}
}

func TestNoRoomForAHead(t *testing.T) { // P16.3: the disk's own ErrFull; the old head stays
	d := made(t, 10)
	c := opened(t, d, "a", 2)
	want(t, "six bytes", c.SetHead(nil, []byte("sixsix")), api.OK)
	want(t, "five more", c.SetHead([]byte("sixsix"), []byte("fives")), api.ErrFull)
	hasHead(t, "full", c, "sixsix")
	want(t, "four more", c.SetHead([]byte("sixsix"), []byte("four")), api.OK)
	hasHead(t, "opened anew", opened(t, d, "a", 2), "four")
}
