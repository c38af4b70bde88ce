package cache_test

import (
	"fmt"
	"math"
	"strings"
	"testing"

	"ledger/api"
	"ledger/cache"
	"ledger/disk"
	"ledger/tile"
)

func TestNames(t *testing.T) { // P16.1: one to thirty small letters and digits
	for b := range 256 {
		for _, name := range []string{string([]byte{byte(b)}), string([]byte{'a', byte(b)}), string([]byte{byte(b), '9'}), string([]byte{'a', byte(b), 'z'})} {
			good := b >= 'a' && b <= 'z' || b >= '0' && b <= '9'
			c, e := cache.Open(made(t, 0), name, 1)
			if good && (c == nil || e != api.OK) || !good && (c != nil || e != api.ErrFile) {
				t.Errorf("Open(%q) = %v, %d", name, c != nil, int(e))
			}
		}
	}
	for n := range 40 {
		c, e := cache.Open(made(t, 0), strings.Repeat("z", n), 1)
		if good := n >= 1 && n <= 30; (c != nil) != good || (e == api.OK) != good || !good && e != api.ErrFile {
			t.Errorf("Open of a name of %d bytes = %v, %d", n, c != nil, int(e))
		}
	}
	for _, name := range []string{"head", "tile", "0", "a.", "..", "a\n", "ä", "\xff", strings.Repeat("a", 1<<20)} {
		c, e := cache.Open(made(t, 0), name, 1)
		if isCacheName(name) != (c != nil) || isCacheName(name) != (e == api.OK) {
			t.Errorf("Open(%.20q) = %v, %d", name, c != nil, int(e))
		}
	}
}

func TestOpenRefuses(t *testing.T) { // P16.1, P0.1: ErrFile, ErrArg, ErrDead, in this order; nil and no act
	d, dead := loaded(t, file("x", nil)), loaded(t, file("x", nil))
	dead.Crash(nil)
	for _, x := range []struct {
		d    *disk.Disk
		name string
		room int
		e    api.Errno
	}{
		{d, "A", -1, api.ErrFile}, {dead, "A", -1, api.ErrFile}, {dead, "", 2, api.ErrFile}, {d, "a", -1, api.ErrArg}, {d, "a", 4097, api.ErrArg}, {d, "a", math.MinInt, api.ErrArg}, {d, "a", math.MaxInt, api.ErrArg},
		{dead, "a", -1, api.ErrArg}, {dead, "a", 4097, api.ErrArg}, {dead, "a", 0, api.ErrDead}, {dead, "a", 4096, api.ErrDead},
	} {
		c, e := cache.Open(x.d, x.name, x.room)
		if c != nil || e != x.e {
			t.Errorf("Open(%q, %d) = %v, %d; want %d", x.name, x.room, c != nil, int(e), int(x.e))
		}
	}
	if d.Acts() != 0 || dead.Acts() != 0 {
		t.Errorf("%d and %d acts", d.Acts(), dead.Acts())
	}
	hasNames(t, "refused", d, "cache/a/x")
	for _, room := range []int{0, 1, 4095, 4096} {
		opened(t, d, "a", room)
	}
}

func TestHeadsFile(t *testing.T) { // P16.1, P16.2: whatever bytes it has, above MaxNote too; none, if there is no such file
	for _, head := range []string{"", "x", "\x00\xff", strings.Repeat("h", 65537), strings.Repeat("h", 1<<20)} {
		d := loaded(t, file("head", []byte(head)), file("head.new", []byte("other")))
		c := opened(t, d, "a", 3)
		hasHead(t, "Open", c, head)
		hasNames(t, "Open", d, "cache/a/head")
		want(t, "SetHead behind it", c.SetHead([]byte(head), []byte("next")), api.OK)
		hasHead(t, "SetHead", c, "next")
	}
	d := loaded(t, file("head.new", []byte("new")), disk.File{Name: "head", Data: []byte("log")}, disk.File{Name: "cache/b/head", Data: []byte("b")}, disk.File{Name: "cache/head", Data: []byte("c")})
	hasHead(t, "without the file", opened(t, d, "a", 3), "")
}

func TestGoodFiles(t *testing.T) { // P16.1: a hash tile's path and its length; all else goes
	for _, x := range []struct {
		f    disk.File
		good bool
	}{
		{tileFile(at(0, 1), 0), true}, {tileFile(at(0, 4), 0), true}, {tileFile(tile.Tile{H: 8, W: 256}, 0), true}, {tileFile(tile.Tile{H: 1, L: 48, W: 1}, 0), true}, {tileFile(tile.Tile{H: 8, N: 1234067, W: 5}, 0), true},
		{file(pathOf(at(0, 1)), make([]byte, 31)), false}, {file(pathOf(at(0, 1)), make([]byte, 33)), false}, {file(pathOf(at(0, 1)), nil), false}, {file(pathOf(at(0, 4)), make([]byte, 127)), false}, {file(pathOf(at(0, 4)), make([]byte, 96)), false}, {file(pathOf(at(0, 2)), make([]byte, 128)), false},
		{file("tile/2/data/000", make([]byte, 128)), false}, {file("tile/2/data/000.p/1", make([]byte, 32)), false},
		{file("tile/2/0/000.p/4", make([]byte, 128)), false}, {file("tile/2/0/000.p/0", nil), false}, {file("tile/2/0/000.p/01", make([]byte, 32)), false}, {file("tile/02/0/000.p/1", make([]byte, 32)), false}, {file("tile/9/0/000.p/1", make([]byte, 32)), false}, {file("tile/2/0/x000/001.p/1", make([]byte, 32)), false}, {file("tile/8/7/000.p/1", make([]byte, 32)), false}, {file("tile/8/0/x001.p/1", make([]byte, 32)), false},
		{file("tile", nil), false}, {file("x/tile/2/0/000.p/1", make([]byte, 32)), false}, {file("a/tile/2/0/000.p/1", make([]byte, 32)), false}, {file("head/x", nil), false}, {file("heads", nil), false}, {file("HEAD", nil), false}, {file("head.new", nil), false}, {file("head.new/head", nil), false},
	} {
		d := loaded(t, x.f)
		n := 2
		if x.good {
			n = 1
		}
		acts(t, x.f.Name, d, n, func() {
			c := opened(t, d, "a", 3)
			if len(c.List()) != 2-n || len(d.List("")) != 2-n || d.Pending() != 0 {
				t.Errorf("%s with %d bytes: List %v, files %q", x.f.Name, len(x.f.Data), c.List(), names(d))
			}
		})
	}
}

func TestWidestStays(t *testing.T) { // P16.1: of the good ones of the same numbers, whatever the order of their names; ahead of counting the room
	d := loaded(t, tileFile(tile.Tile{H: 8, W: 2}, 0), tileFile(tile.Tile{H: 8, W: 10}, 0), tileFile(tile.Tile{H: 8, W: 9}, 0), tileFile(tile.Tile{H: 8, N: 1, W: 1}, 0), tileFile(tile.Tile{H: 7, W: 3}, 0), tileFile(tile.Tile{H: 8, L: 1, W: 4}, 0))
	c := opened(t, d, "a", 4)
	lists(t, "widths", c, tile.Tile{H: 7, W: 3}, tile.Tile{H: 8, W: 10}, tile.Tile{H: 8, N: 1, W: 1}, tile.Tile{H: 8, L: 1, W: 4})
	gives(t, c, tile.Tile{H: 8, W: 9}, bytesOf(tile.Tile{H: 8, W: 10}, 0)[:32*9], api.OK)
	d = loaded(t, tileFile(at(0, 1), 0), tileFile(at(0, 2), 0), tileFile(at(0, 3), 0), file(pathOf(at(0, 4)), make([]byte, 129)), tileFile(at(1, 1), 0))
	lists(t, "a wider one that isn't good", opened(t, d, "a", 2), at(0, 3), at(1, 1))
	hasNames(t, "a wider one that isn't good", d, "cache/a/tile/2/0/000.p/3", "cache/a/tile/2/0/001.p/1")
}

func TestFirstByNameStay(t *testing.T) { // P16.1: in the order of the names' bytes, not of the numbers; used in that order
	list := []tile.Tile{{H: 1, L: 0, N: 0, W: 1}, {H: 1, L: 0, N: 999, W: 2}, {H: 1, L: 0, N: 1000, W: 2}, {H: 1, L: 10, N: 0, W: 2}, {H: 1, L: 10, N: 1, W: 1}, {H: 1, L: 2, N: 0, W: 1}, {H: 8, L: 0, N: 0, W: 1}}
	var files []disk.File
	for _, x := range list {
		files = append([]disk.File{tileFile(x, 0)}, files...)
	}
	for room := range 9 {
		d := loaded(t, files...)
		gone := max(0, len(list)-room)
		acts(t, fmt.Sprint("room ", room), d, gone+1, func() {
			c := opened(t, d, "a", room)
			lists(t, fmt.Sprint("room ", room), c, list[:len(list)-gone]...)
		})
		if room == 7 {
			c := opened(t, d, "a", room)
			puts(t, c, tile.Tile{H: 8, L: 0, N: 1, W: 1})
			lists(t, "the first was used longest ago", c, append(list[1:], tile.Tile{H: 8, L: 0, N: 1, W: 1})...)
		}
	}
}

// messy: a disk with files of all kinds.
func messy() []disk.File {
	return []disk.File{
		file("head", []byte("h")), file("head.new", []byte("n")), file("x", []byte("x")), tileFile(at(0, 4), 0), tileFile(at(0, 2), 0), tileFile(at(1, 1), 0), tileFile(at(2, 3), 0), tileFile(at(3, 3), 0), file(pathOf(at(4, 1)), []byte("short")), file("tile/2/data/000", bytesOf(at(0, 4), 1)),
		{Name: "head", Data: []byte("log")}, {Name: "head.new"}, {Name: "tile/2/0/000.p/1", Data: bytesOf(at(0, 1), 1)}, {Name: "cache/ab/head", Data: []byte("ab")}, {Name: "cache/ab/x"}, {Name: "cache/a"}, {Name: "cache/b/tile/2/0/000.p/1"}, {Name: "a/x"},
	}
}

func TestOpenDoesTheseActs(t *testing.T) { // P16.1: each in its turn, whichever fails and however; those ahead of it stay done
	for room := range 6 {
		for _, fault := range faults() {
			for n := range 13 {
				p := newPair(t, space, messy()...)
				p.fail(n, fault)
				gone := 9 - min(room, 4) // of 10 files, without the head's
				e := p.open("a", room)
				if failed := n >= 1 && n <= gone+1; failed && e != fault || !failed && e != api.OK {
					t.Fatalf("room %d: Open with act %d failing = %d", room, n, int(e))
				}
				if e == api.OK && p.d.Acts() != gone+1 {
					t.Fatalf("room %d: %d acts", room, p.d.Acts())
				}
				p.agreeBehindCrashes("Open")
			}
		}
	}
}

func TestOthersFilesStay(t *testing.T) { // P16.1, P16.10: caches of other names, a log
	d := loaded(t, messy()...)
	c := opened(t, d, "a", 0)
	puts(t, c, at(0, 1))
	c.SetHead([]byte("h"), []byte("i"))
	hasNames(t, "Open", d, "a/x", "cache/a", "cache/a/head", "cache/ab/head", "cache/ab/x", "cache/b/tile/2/0/000.p/1", "head", "head.new", "tile/2/0/000.p/1")
	for _, f := range messy() {
		if strings.HasPrefix(f.Name, "cache/a/") {
			continue
		}
		if got := readOrNone(d, f.Name); got != string(f.Data) {
			t.Errorf("%s = %q; want %q", f.Name, got, f.Data)
		}
	}
}

func TestOpenTwice(t *testing.T) { // P16.1: the second time one act, and the same answers
	p := newPair(t, space, messy()...)
	p.open("a", 3)
	list, files := p.c.List(), told(p.d.Files())
	acts(t, "Open again", p.d, 1, func() { p.open("a", 3) })
	lists(t, "Open again", p.c, list...)
	if told(p.d.Files()) != files || p.d.Pending() != 0 {
		t.Errorf("Open again leaves %s", names(p.d))
	}
	for _, choices := range [][]int{nil, {3}, {-1, -1, -1}} {
		if got := told(p.d.Crash(choices).Files()); got != files {
			t.Errorf("a crash behind Open leaves %s", got)
		}
	}
}

func TestOpenOrdersAnew(t *testing.T) { // P16.1: the order of use is not on the disk
	d, c := begun(t, 4)
	puts(t, c, tiles(3, 0, 2, 1)...)
	lists(t, "Put", c, tiles(3, 0, 2, 1)...)
	lists(t, "Open", opened(t, d, "a", 4), tiles(0, 1, 2, 3)...)
	lists(t, "the first, which does not know of it", c, tiles(3, 0, 2, 1)...)
	lists(t, "Open with less room", opened(t, d, "a", 2), tiles(0, 1)...)
	gives(t, c, at(3, 1), nil, api.ErrEntry)
	gives(t, c, at(0, 1), bytesOf(at(0, 1), 0), api.OK)
	lists(t, "the first, which has met it", c, tiles(2, 1, 0)...)
}

func TestOpenNeedsNoRoom(t *testing.T) { // P16.1: on a full disk, as a crash may leave it
	d, e := disk.Load(128, []disk.File{tileFile(at(0, 1), 0), tileFile(at(1, 1), 0), tileFile(at(2, 1), 0), file("head", bytesOf(at(3, 1), 0))})
	if e != api.OK {
		t.Fatal(e)
	}
	c := opened(t, d, "a", 3)
	lists(t, "Open", c, tiles(0, 1, 2)...)
	want(t, "SetHead", c.SetHead(bytesOf(at(3, 1), 0), []byte("x")), api.ErrFull)
	hasHead(t, "SetHead", c, string(bytesOf(at(3, 1), 0)))
}
