package cache_test

import (
	"strings"
	"testing"

	"ledger/api"
	"ledger/cache"
	"ledger/disk"
	"ledger/tile"
)

func TestExamplesOfOpen(t *testing.T) { // P16.1, P16.2, P16.8: examples 1 and 8
	d := made(t, space)
	acts(t, "Open", d, 1, func() {
		c := opened(t, d, "a", 2)
		hasHead(t, "Open", c, "")
		lists(t, "Open", c)
	})
	for _, name := range []string{"", "A", "a/b", strings.Repeat("a", 31)} {
		c, e := cache.Open(d, name, 2)
		if c != nil || e != api.ErrFile {
			t.Errorf("Open(%q) = %v, %d", name, c, int(e))
		}
	}
	for _, room := range []int{-1, 4097} {
		c, e := cache.Open(d, "a", room)
		if c != nil || e != api.ErrArg {
			t.Errorf("Open with room %d = %v, %d", room, c, int(e))
		}
	}
	d = loaded(t, tileFile(at(0, 4), 0), tileFile(at(0, 2), 0), file("tile/2/0/001.p/1", make([]byte, 31)), file("tile/2/data/000.p/1", make([]byte, 32)),
		file("head.new", nil), file("x", nil), disk.File{Name: "cache/ab/x"})
	acts(t, "Open over files", d, 6, func() { lists(t, "Open over files", opened(t, d, "a", 2), at(0, 4)) })
	hasNames(t, "Open over files", d, "cache/a/tile/2/0/000", "cache/ab/x")
}

func TestExamplesOfHeads(t *testing.T) { // P16.2, P16.3: example 2
	d, c := begun(t, 2)
	acts(t, "SetHead", d, 5, func() { want(t, "SetHead", c.SetHead(nil, []byte("x")), api.OK) })
	hasNames(t, "SetHead", d, "cache/a/head")
	hasHead(t, "SetHead", c, "x")
	long := make([]byte, 65537)
	want(t, "SetHead(nil, y)", c.SetHead(nil, []byte("y")), api.ErrMoved)
	want(t, "SetHead(x, y)", c.SetHead([]byte("x"), []byte("y")), api.OK)
	want(t, "SetHead(x, 65537 bytes)", c.SetHead([]byte("x"), long), api.ErrMoved)
	want(t, "SetHead(y, 65537 bytes)", c.SetHead([]byte("y"), long), api.ErrLong)
	hasHead(t, "behind all", c, "y")
}

func TestExamplesOfTiles(t *testing.T) { // P16.5, P16.6, P16.8: examples 3, 4 and 7
	d, c := begun(t, 2)
	acts(t, "Put", d, 2, func() { puts(t, c, at(0, 3)) })
	hasNames(t, "Put", d, "cache/a/tile/2/0/000.p/3")
	data := bytesOf(at(0, 3), 0)
	gives(t, c, at(0, 3), data, api.OK)
	gives(t, c, at(0, 1), data[:32], api.OK)
	gives(t, c, at(0, 4), nil, api.ErrEntry)
	gives(t, c, at(1, 1), nil, api.ErrEntry)
	gives(t, c, tile.Tile{H: 2, W: 1, Data: true}, nil, api.ErrTile)
	acts(t, "Put of a wider one", d, 3, func() { puts(t, c, at(0, 4)) })
	lists(t, "Put of a wider one", c, at(0, 4))
	acts(t, "Put of a narrower one", d, 0, func() { puts(t, c, at(0, 2)) })
	lists(t, "Put of a narrower one", c, at(0, 4))
	hasNames(t, "Put of a narrower one", d, "cache/a/tile/2/0/000")

	d, c = begun(t, 2)
	puts(t, c, at(0, 3))
	d.Write("cache/a/tile/2/0/000.p/3", 96, []byte("x"))
	gives(t, c, at(0, 3), nil, api.ErrEntry)
	lists(t, "a byte behind the end", c)
	acts(t, "Put again", d, 2, func() { puts(t, c, at(0, 3)) })
}

func TestExamplesOfRoom(t *testing.T) { // P16.6, P16.8: examples 5 and 6
	d, c := begun(t, 2)
	puts(t, c, at(0, 1), at(1, 1))
	gives(t, c, at(0, 1), bytesOf(at(0, 1), 0), api.OK)
	acts(t, "Put of a third", d, 3, func() { puts(t, c, at(2, 1)) })
	lists(t, "Put of a third", c, at(0, 1), at(2, 1))
	d, c = begun(t, 0)
	acts(t, "Put without room", d, 0, func() { puts(t, c, at(0, 1)) })
	lists(t, "Put without room", c)
}

func TestExamplesOfFaults(t *testing.T) { // P16.3, P16.4: examples 9 and 10
	d, c := begun(t, 2)
	c.SetHead(nil, []byte("x"))
	d.Fail(5, api.ErrIO)
	want(t, "SetHead with a fault", c.SetHead([]byte("x"), []byte("y")), api.ErrIO)
	hasHead(t, "SetHead with a fault", c, "x")
	want(t, "SetHead behind it", c.SetHead([]byte("x"), []byte("z")), api.ErrMoved)
	hasHead(t, "Open anew", opened(t, d, "a", 2), "y")
	for _, choices := range [][]int{nil, {1}, {-1, -1}} {
		hasHead(t, "behind a crash", opened(t, d.Crash(choices), "a", 2), "y")
	}

	d, c = begun(t, 2)
	c.SetHead(nil, []byte("x"))
	d.Fail(4, api.ErrDead)
	want(t, "SetHead, dead at Rename", c.SetHead([]byte("x"), []byte("y")), api.ErrDead)
	hasHead(t, "a crash that loses all", opened(t, d.Crash(nil), "a", 2), "x")
	hasHead(t, "a crash that loses the Rename", opened(t, d.Crash([]int{1}), "a", 2), "x")
	hasHead(t, "a crash that loses nothing", opened(t, d.Crash([]int{2}), "a", 2), "y")
}
