package disk_test

import (
	"bytes"
	"fmt"
	"math"
	"strings"
	"testing"

	"ledger/api"
)

func TestWriteExample(t *testing.T) { // P12.3, P12.4: example 1
	d := made(t, 100)
	d.Create("a")
	d.Write("a", 0, []byte("xyz"))
	holds(t, "written", d, `a="xyz"`)
	want(t, "behind a gap", d.Write("a", 5, []byte("q")), api.OK)
	holds(t, "with a gap", d, `a="xyz\x00\x00q"`)
	if d.Used() != 6 {
		t.Errorf("Used %d", d.Used())
	}
	want(t, "no bytes", d.Write("a", 90, nil), api.OK)
	want(t, "no bytes", d.Write("a", 90, []byte{}), api.OK)
	holds(t, "no bytes", d, `a="xyz\x00\x00q"`)
	want(t, "too far", d.Write("a", 97, []byte("0123")), api.ErrFull)
	holds(t, "refused", d, `a="xyz\x00\x00q"`)
	want(t, "just so far", d.Write("a", 96, []byte("0123")), api.OK)
	want(t, "over bytes", d.Write("a", 0, []byte("XYZ")), api.OK)
	if d.Used() != 100 {
		t.Errorf("Used %d", d.Used())
	}
	b, _ := d.Read("a")
	if string(b) != "XYZ\x00\x00q"+strings.Repeat("\x00", 90)+"0123" {
		t.Errorf("Read = %q", b)
	}
}

func TestWriteOverPieces(t *testing.T) { // P12.3: ahead of the end, over it, at it, behind it
	for at := range 8 {
		for n := range 6 {
			d := loaded(t, 100, file("a", "abcd"))
			want(t, "Write", d.Write("a", at, []byte("012345"[:n])), api.OK)
			full := []byte("abcd\x00\x00\x00\x00\x00\x00\x00\x00\x00")
			copy(full[at:], "012345"[:n])
			end := 4
			if n > 0 {
				end = max(4, at+n)
			}
			b, _ := d.Read("a")
			if !bytes.Equal(b, full[:end]) || d.Used() != int64(end) {
				t.Errorf("Write(%d, %d bytes): %q, Used %d; want %q", at, n, b, d.Used(), full[:end])
			}
		}
	}
}

func TestGapIsZeros(t *testing.T) { // P12.3: behind a file that had bytes there under the same name
	d := made(t, 1000)
	d.Create("a")
	d.Write("a", 0, bytes.Repeat([]byte("#"), 50))
	d.Create("a")
	d.Write("a", 20, []byte("x"))
	b, _ := d.Read("a")
	if string(b) != strings.Repeat("\x00", 20)+"x" {
		t.Errorf("Read = %q", b)
	}
	for i := range 10 { // a file that grows again and again
		d.Write("a", len(b)+i, []byte("y"))
		b, _ = d.Read("a")
	}
	if strings.Count(string(b), "y") != 10 || strings.Count(string(b), "\x00") != len(b)-11 {
		t.Errorf("Read = %q", b)
	}
}

func TestWritePlaces(t *testing.T) { // P12.3, P0.1: at from 0 to api.MaxBytes, with data and without
	for _, data := range [][]byte{nil, []byte("x")} {
		for _, at := range []int{-1, math.MinInt, api.MaxBytes + 1, math.MaxInt} {
			d := loaded(t, 0, file("a", ""))
			want(t, fmt.Sprintf("Write at %d", at), d.Write("a", at, data), api.ErrArg)
			want(t, "Write to what isn't there", d.Write("b", at, data), api.ErrAbsent)
			want(t, "Write to no name", d.Write("", at, data), api.ErrFile)
		}
	}
	d := loaded(t, 1<<22, file("a", ""))
	want(t, "Write at the last place", d.Write("a", api.MaxBytes, []byte("xyz")), api.OK)
	b, _ := d.Read("a")
	if len(b) != api.MaxBytes+3 || d.Used() != api.MaxBytes+3 || string(b[api.MaxBytes:]) != "xyz" || bytes.Count(b, []byte{0}) != api.MaxBytes {
		t.Errorf("Write at the last place: %d bytes, Used %d", len(b), d.Used())
	}
	long := bytes.Repeat([]byte("0123456789"), 200000)
	want(t, "Write of more than api.MaxBytes", d.Write("a", 7, long), api.OK)
	if b, _ = d.Read("a"); len(b) != 2000007 || !bytes.Equal(b[7:], long) {
		t.Errorf("a long write reads as %d bytes", len(b))
	}
}

func TestCreateAnew(t *testing.T) { // P12.3: a file that had the name has lost it
	d := loaded(t, 10, file("a", "0123456789"))
	want(t, "Write on a full disk", d.Write("a", 10, []byte("x")), api.ErrFull)
	want(t, "Create", d.Create("a"), api.OK)
	holds(t, "Create", d, `a=""`)
	if d.Used() != 0 || d.Pending() != 1 {
		t.Errorf("Used %d, Pending %d", d.Used(), d.Pending())
	}
	want(t, "Write where there is room again", d.Write("a", 0, []byte("9876543210")), api.OK)
	holds(t, "Write", d, `a="9876543210"`)
}

func TestRename(t *testing.T) { // P12.3: onto no file, onto another, onto itself
	d := loaded(t, 10, file("a", "abc"), file("b", "defg"))
	want(t, "Rename(a, c)", d.Rename("a", "c"), api.OK)
	holds(t, "Rename(a, c)", d, `b="defg" c="abc"`)
	want(t, "Rename(c, c)", d.Rename("c", "c"), api.OK)
	holds(t, "Rename(c, c)", d, `b="defg" c="abc"`)
	if d.Used() != 7 || d.Pending() != 2 {
		t.Errorf("Used %d, Pending %d", d.Used(), d.Pending())
	}
	want(t, "Rename(b, c)", d.Rename("b", "c"), api.OK)
	holds(t, "Rename(b, c)", d, `c="defg"`)
	if d.Used() != 4 || d.Pending() != 3 {
		t.Errorf("Used %d, Pending %d", d.Used(), d.Pending())
	}
	want(t, "Rename(a, c)", d.Rename("a", "c"), api.ErrAbsent)
	want(t, "Rename(a, a)", d.Rename("a", "a"), api.ErrAbsent)
	want(t, "Write to it", d.Write("c", 4, []byte("hijklm")), api.OK)
	want(t, "Write to it", d.Write("c", 10, []byte("n")), api.ErrFull)
}

func TestRenameToItselfIsLoose(t *testing.T) { // P12.3, P12.6: it is a loose names' act all the same
	d := loaded(t, 10, file("a", "abc"))
	d.Rename("a", "a")
	d.Remove("a")
	if d.Pending() != 2 {
		t.Errorf("Pending %d", d.Pending())
	}
	holds(t, "the first lasts", d.Crash([]int{1}), `a="abc"`)
	holds(t, "both last", d.Crash([]int{2}), "")
	holds(t, "none lasts", d.Crash([]int{3}), `a="abc"`)
}

func TestNameGoesRound(t *testing.T) { // P12.3: three files change names; each keeps its bytes
	d := loaded(t, 10, file("a", "1"), file("b", "22"), file("c", "333"))
	for _, p := range [][2]string{{"a", "t"}, {"b", "a"}, {"c", "b"}, {"t", "c"}} {
		want(t, "Rename", d.Rename(p[0], p[1]), api.OK)
	}
	holds(t, "round", d, `a="22" b="333" c="1"`)
	d.Write("c", 1, []byte("x"))
	holds(t, "a write to one", d, `a="22" b="333" c="1x"`)
	for n, files := range []string{`a="1" b="22" c="333"`, `b="22" c="333" t="1"`, `a="22" c="333" t="1"`, `a="22" b="333" t="1"`, `a="22" b="333" c="1"`} {
		holds(t, "Crash", d.Crash([]int{n}), files)
	}
}

func TestRemove(t *testing.T) { // P12.3: the file has lost its name, and its room is free
	d := loaded(t, 4, file("a", "abcd"), file("b", ""))
	want(t, "Remove(a)", d.Remove("a"), api.OK)
	want(t, "Remove(a) again", d.Remove("a"), api.ErrAbsent)
	want(t, "Sync(a)", d.Sync("a"), api.ErrAbsent)
	want(t, "Write(a)", d.Write("a", 0, nil), api.ErrAbsent)
	holds(t, "Remove", d, `b=""`)
	want(t, "Write(b)", d.Write("b", 0, []byte("wxyz")), api.OK)
	if d.Used() != 4 {
		t.Errorf("Used %d", d.Used())
	}
}

func TestErrorsDoNothing(t *testing.T) { // P12.3, P12.5, P0.1: an act with an error changes nothing, but counts
	d := loaded(t, 5, file("a", "abc"), file("b", "de"))
	acts := []struct {
		e  api.Errno
		do func() api.Errno
	}{
		{api.ErrFile, func() api.Errno { return d.Create("x/") }},
		{api.ErrFile, func() api.Errno { return d.Write(".", -1, make([]byte, 9)) }},
		{api.ErrAbsent, func() api.Errno { return d.Write("c", -1, make([]byte, 9)) }},
		{api.ErrArg, func() api.Errno { return d.Write("a", -1, make([]byte, 9)) }},
		{api.ErrFull, func() api.Errno { return d.Write("a", 0, make([]byte, 9)) }},
		{api.ErrFull, func() api.Errno { return d.Write("a", api.MaxBytes, make([]byte, 9)) }},
		{api.ErrFile, func() api.Errno { return d.Sync("..") }},
		{api.ErrAbsent, func() api.Errno { return d.Sync("c") }},
		{api.ErrFile, func() api.Errno { return d.Rename("a", "/") }},
		{api.ErrFile, func() api.Errno { return d.Rename("/", "a") }},
		{api.ErrFile, func() api.Errno { return d.Rename("c", "/") }},
		{api.ErrAbsent, func() api.Errno { return d.Rename("c", "a") }},
		{api.ErrFile, func() api.Errno { return d.Remove("a ") }},
		{api.ErrAbsent, func() api.Errno { return d.Remove("c") }},
	}
	for i, a := range acts {
		want(t, fmt.Sprintf("act %d", i), a.do(), a.e)
		holds(t, "behind an error", d, `a="abc" b="de"`)
		if d.Used() != 5 || d.Pending() != 0 || d.Acts() != i+1 {
			t.Errorf("act %d: Used %d, Pending %d, Acts %d", i, d.Used(), d.Pending(), d.Acts())
		}
	}
	d.Crash(nil)
	for i, a := range acts {
		want(t, fmt.Sprintf("act %d on a dead disk", i), a.do(), api.ErrDead)
	}
	if d.Acts() != len(acts) {
		t.Errorf("Acts %d of a dead disk", d.Acts())
	}
}

func TestPending(t *testing.T) { // P12.5, P12.6: example 2
	d := made(t, 100)
	for i, c := range []struct {
		do      func() api.Errno
		pending int
	}{
		{func() api.Errno { return d.Create("a") }, 1},
		{func() api.Errno { return d.Write("a", 0, []byte("xyz")) }, 2},
		{func() api.Errno { return d.Sync("a") }, 1},
		{func() api.Errno { return d.SyncNames() }, 0},
		{func() api.Errno { return d.Write("a", 0, nil) }, 0},
		{func() api.Errno { return d.Write("a", 1, []byte("y")) }, 1},
		{func() api.Errno { return d.SyncNames() }, 1},
		{func() api.Errno { return d.Rename("a", "b") }, 2},
		{func() api.Errno { return d.Sync("b") }, 1},
		{func() api.Errno { return d.Write("b", 50, []byte("y")) }, 2},
		{func() api.Errno { return d.Remove("b") }, 3},
		{func() api.Errno { return d.SyncNames() }, 0},
	} {
		want(t, "act", c.do(), api.OK)
		if d.Pending() != c.pending || d.Acts() != i+1 {
			t.Errorf("act %d: Pending %d, Acts %d; want %d", i+1, d.Pending(), d.Acts(), c.pending)
		}
	}
}

func TestPendingOfLostFiles(t *testing.T) { // P12.6: while a crash may bring the file back, and no longer
	d := loaded(t, 100, file("a", "abc"))
	steps := []struct {
		do      func() api.Errno
		pending int
	}{
		{func() api.Errno { return d.Write("a", 0, []byte("x")) }, 1},  // had a name when SyncNames was last done
		{func() api.Errno { return d.Create("a") }, 2},                 // it has lost the name
		{func() api.Errno { return d.Write("a", 0, []byte("yy")) }, 3}, // a file that has a name behind the first act
		{func() api.Errno { return d.Create("b") }, 4},
		{func() api.Errno { return d.Write("b", 0, []byte("z")) }, 5},
		{func() api.Errno { return d.Rename("b", "a") }, 6},
		{func() api.Errno { return d.Sync("a") }, 5}, // of the file that was b alone
		{func() api.Errno { return d.Write("a", 1, []byte("z")) }, 6},
		{func() api.Errno { return d.SyncNames() }, 1},
		{func() api.Errno { return d.Sync("a") }, 0},
	}
	for i, c := range steps {
		want(t, "act", c.do(), api.OK)
		if d.Pending() != c.pending {
			t.Errorf("act %d: Pending %d; want %d", i+1, d.Pending(), c.pending)
		}
	}
	holds(t, "all of it", d, `a="zz"`)
}

func TestSyncIsOfOneFile(t *testing.T) { // P12.3: the others' writes stay loose
	d := loaded(t, 100, file("a", ""), file("b", ""))
	d.Write("a", 0, []byte("11"))
	d.Write("b", 0, []byte("22"))
	d.Sync("a")
	d.Write("a", 1, []byte("33"))
	holds(t, "Crash", d.Crash(nil), `a="11" b=""`)
	holds(t, "Crash", d.Crash([]int{0, 1, 1}), `a="13" b="2"`)
	holds(t, "Crash", d.Crash([]int{0, 2, 0}), `a="11" b="22"`)
}

func TestSyncOfMany(t *testing.T) { // P12.3: what lasts is the whole of what was read, however it was written
	d := loaded(t, 1000, file("a", "0123456789"))
	for i := range 30 {
		d.Write("a", i*7%23, []byte(strings.Repeat(string(rune('a'+i%26)), i%5)))
		if i%4 == 0 {
			d.Sync("a")
		}
	}
	d.Write("a", 40, []byte("end"))
	d.Sync("a")
	now, _ := d.Read("a")
	for _, c := range [][]int{nil, {1, 1, 1}, {-1}} {
		b, e := d.Crash(c).Read("a")
		if !bytes.Equal(b, now) || e != api.OK {
			t.Errorf("behind a crash %q; want %q", b, now)
		}
	}
}

func TestFilesOfMany(t *testing.T) { // P12.3, P12.4: thousands of files, synced one by one
	d := made(t, 1<<30)
	const n = 5000
	for i := range n {
		d.Create(fmt.Sprintf("f/%04d", i))
		d.Write(fmt.Sprintf("f/%04d", i), 0, []byte("data"))
	}
	if d.Pending() != 2*n || d.Used() != 4*n {
		t.Errorf("Pending %d, Used %d", d.Pending(), d.Used())
	}
	for i := range n {
		d.Sync(fmt.Sprintf("f/%04d", i))
		d.SyncNames()
	}
	left := d.Crash(nil)
	if d.Pending() != 0 || len(left.List("f/")) != n || left.Used() != 4*n {
		t.Errorf("Pending %d; %d files, Used %d", d.Pending(), len(left.List("f/")), left.Used())
	}
}
