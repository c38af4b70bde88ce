package cache_test

import (
	"math"
	"slices"
	"testing"

	"ledger/api"
	"ledger/cache"
	"ledger/disk"
	"ledger/tile"
)

// noTiles: numbers that may not be, and data tiles.
func noTiles() []tile.Tile {
	return []tile.Tile{
		{}, {H: 2}, {W: 1}, {H: 9, W: 1}, {H: -1, W: 1}, {H: 2, W: 5}, {H: 2, W: -1}, {H: 2, L: -1, W: 1}, {H: 2, N: -1, W: 1}, {H: 8, L: 7, W: 1}, {H: 8, L: 6, W: 2}, {H: 8, N: 1 << 40, W: 1},
		{H: math.MaxInt, L: math.MaxInt, N: math.MaxInt64, W: math.MaxInt}, {H: math.MinInt, L: math.MinInt, N: math.MinInt64, W: math.MinInt}, {H: 8, L: math.MaxInt, N: math.MaxInt64, W: 1}, {H: 8, W: math.MaxInt/32 + 2},
		{H: 2, W: 1, Data: true}, {H: 2, W: 4, Data: true}, {H: 2, L: 1, W: 1, Data: true}, {Data: true},
	}
}

func TestNoTiles(t *testing.T) { // P16.5 to P16.7, P0.1: ErrTile ahead of all else, on a dead disk and without room too
	for _, room := range []int{0, 2} {
		d, c := begun(t, room)
		puts(t, c, at(0, 4))
		list := c.List()
		check := func() {
			t.Helper()
			for _, x := range noTiles() {
				gives(t, c, x, nil, api.ErrTile)
				for _, n := range []int{0, 32, 33} {
					want(t, "Put", c.Put(x, make([]byte, n)), api.ErrTile)
				}
				want(t, "Drop", c.Drop(x), api.ErrTile)
			}
		}
		acts(t, "no tiles", d, 0, check)
		d.Crash(nil)
		check()
		lists(t, "no tiles", c, list...)
	}
}

func TestTile(t *testing.T) { // P16.5: the first bytes of an entry that is wide enough; the same H, L and N
	_, c := begun(t, 9)
	held := []tile.Tile{at(0, 3), at(1, 4), {H: 2, L: 1, W: 2}, {H: 3, W: 5}, {H: 8, W: 256}}
	puts(t, c, held...)
	for _, x := range held {
		for w := 1; w <= 1<<x.H; w++ {
			y := x
			y.W = w
			if w <= x.W {
				gives(t, c, y, bytesOf(x, 0)[:32*w], api.OK)
			} else {
				gives(t, c, y, nil, api.ErrEntry)
			}
		}
	}
	for _, x := range []tile.Tile{at(2, 1), {H: 2, L: 2, W: 1}, {H: 2, L: 1, N: 1, W: 1}, {H: 1, W: 1}, {H: 3, L: 1, W: 1}, {H: 8, L: 6, W: 1}} {
		gives(t, c, x, nil, api.ErrEntry)
	}
	lists(t, "Tile", c, held...)
}

func TestTileIsUse(t *testing.T) { // P16.5, P16.8: where it answers OK, and only there
	d, c := begun(t, 3)
	puts(t, c, at(0, 2), at(1, 2), at(2, 2))
	gives(t, c, at(0, 1), bytesOf(at(0, 2), 0)[:32], api.OK)
	lists(t, "the first", c, at(1, 2), at(2, 2), at(0, 2))
	gives(t, c, at(2, 2), bytesOf(at(2, 2), 0), api.OK)
	lists(t, "the middle one", c, at(1, 2), at(0, 2), at(2, 2))
	gives(t, c, at(2, 2), bytesOf(at(2, 2), 0), api.OK)
	lists(t, "the last", c, at(1, 2), at(0, 2), at(2, 2))
	gives(t, c, at(1, 3), nil, api.ErrEntry)
	lists(t, "one that is too narrow", c, at(1, 2), at(0, 2), at(2, 2))
	d.Crash(nil)
	gives(t, c, at(1, 1), nil, api.ErrDead)
	gives(t, c, at(1, 3), nil, api.ErrEntry)
	gives(t, c, at(5, 1), nil, api.ErrEntry)
	lists(t, "on a dead disk", c, at(1, 2), at(0, 2), at(2, 2))
}

func TestSpoiltFiles(t *testing.T) { // P16.5: not there, or of another length than the entry's: the entry goes, and no act is done; other bytes of that length are answered
	for i, x := range []struct {
		others func(d *disk.Disk, name string)
		goes   bool
	}{
		{func(d *disk.Disk, name string) { d.Remove(name) }, true},
		{func(d *disk.Disk, name string) { d.Rename(name, "elsewhere") }, true},
		{func(d *disk.Disk, name string) { d.Create(name) }, true},
		{func(d *disk.Disk, name string) { d.Write(name, 96, []byte("x")) }, true},
		{func(d *disk.Disk, name string) { d.Write(name, 127, []byte("x")) }, true},                    // as long as a full tile
		{func(d *disk.Disk, name string) { d.Create(name); d.Write(name, 0, make([]byte, 32)) }, true}, // as long as what is asked
		{func(d *disk.Disk, name string) { d.Create(name); d.Write(name, 0, make([]byte, 95)) }, true},
		{func(d *disk.Disk, name string) { d.Create(name); d.Write(name, 0, make([]byte, 96)) }, false},
		{func(d *disk.Disk, name string) { d.Write(name, 90, []byte("spoilt")) }, false},
	} {
		p := newPair(t, space)
		p.open("a", 3)
		p.put(at(1, 1), bytesOf(at(1, 1), 0))
		p.put(at(0, 3), bytesOf(at(0, 3), 0))
		p.put(at(2, 1), bytesOf(at(2, 1), 0))
		p.both(func(d *disk.Disk) { x.others(d, "cache/a/tile/2/0/000.p/3") })
		list := []tile.Tile{at(1, 1), at(0, 3), at(2, 1)}
		lists(t, "ahead of asking", p.c, list...)
		acts(t, "Tile", p.d, 0, func() {
			if _, e := p.tile(at(0, 1)); (e == api.ErrEntry) != x.goes {
				t.Errorf("case %d: Tile = %d", i, int(e))
			}
		})
		if !x.goes {
			list = append(list, at(0, 3))
		}
		lists(t, "behind it", p.c, slices.Delete(list, 1, 2)...)
		n := 0
		if x.goes {
			n = 2
		}
		acts(t, "Put behind it", p.d, n, func() { p.put(at(0, 2), bytesOf(at(0, 2), 1)) })
		p.agreeBehindCrashes("spoilt files")
	}
}

func TestPut(t *testing.T) { // P16.6, P16.8: narrower, wider, the same; none of the same numbers
	for _, room := range []int{1, 2, 3, 4096} {
		p := newPair(t, space)
		p.open("a", room)
		for i, w := range []int{2, 1, 2, 3, 3, 1, 4, 4, 2} {
			p.put(at(0, w), bytesOf(at(0, w), i))
			p.put(tile.Tile{H: 3, L: i % 2, W: w}, bytesOf(at(7, w), i))
			p.put(tile.Tile{H: 2, L: 1, N: int64(i / 2), W: 4 - w/2}, bytesOf(at(8, 4-w/2), i))
			p.tile(at(0, w))
		}
		if got := len(p.c.List()); got > room || room == 4096 && len(p.d.List("")) != got {
			t.Errorf("room %d: %d entries, files %q", room, got, names(p.d))
		}
		p.agreeBehindCrashes("Put")
	}
}

func TestPutAgain(t *testing.T) { // P16.6: of the same width: two acts, the new bytes, used last; nothing else goes, even in a full cache
	d, c := begun(t, 2)
	puts(t, c, at(0, 2), at(1, 2))
	acts(t, "Put again", d, 2, func() { want(t, "Put again", c.Put(at(0, 2), bytesOf(at(0, 2), 7)), api.OK) })
	lists(t, "Put again", c, at(1, 2), at(0, 2))
	gives(t, c, at(0, 2), bytesOf(at(0, 2), 7), api.OK)
	acts(t, "Put of a wider one", d, 3, func() { want(t, "Put of a wider one", c.Put(at(1, 3), bytesOf(at(1, 3), 8)), api.OK) })
	lists(t, "Put of a wider one", c, at(0, 2), at(1, 3))
	acts(t, "Put of a narrower one", d, 0, func() { want(t, "Put of a narrower one", c.Put(at(0, 1), bytesOf(at(0, 1), 9)), api.OK) })
	lists(t, "Put of a narrower one", c, at(1, 3), at(0, 2))
	gives(t, c, at(0, 1), bytesOf(at(0, 2), 7)[:32], api.OK)
	hasNames(t, "behind all", d, "cache/a/tile/2/0/000.p/2", "cache/a/tile/2/0/001.p/3")
}

func TestPutOverOthersFiles(t *testing.T) { // P16.6: what somebody has laid there is not left in the tile's file; what somebody has removed is as good as removed
	p := newPair(t, space)
	p.open("a", 1)
	p.both(func(d *disk.Disk) {
		d.Create("cache/a/tile/2/0/000.p/1")
		d.Write("cache/a/tile/2/0/000.p/1", 0, make([]byte, 99))
	})
	p.put(at(0, 1), bytesOf(at(0, 1), 0))
	gives(t, p.c, at(0, 1), bytesOf(at(0, 1), 0), api.OK)
	p.both(func(d *disk.Disk) { d.Remove("cache/a/tile/2/0/000.p/1") })
	acts(t, "Put of a wider one", p.d, 3, func() { want(t, "Put", p.put(at(0, 2), bytesOf(at(0, 2), 0)), api.OK) })
	p.both(func(d *disk.Disk) { d.Remove("cache/a/tile/2/0/000.p/2") })
	acts(t, "Put of another", p.d, 3, func() { want(t, "Put", p.put(at(1, 1), bytesOf(at(1, 1), 0)), api.OK) })
	p.both(func(d *disk.Disk) { d.Remove("cache/a/tile/2/0/001.p/1") })
	acts(t, "Drop", p.d, 1, func() { want(t, "Drop", p.drop(at(1, 1)), api.OK) })
	p.agreeBehindCrashes("files that are gone")
}

func TestPutRefuses(t *testing.T) { // P16.6, P0.1: ErrWidth ahead of all that is done, without room too; then an act's, if one is called
	for _, room := range []int{0, 1} {
		d, c := begun(t, room)
		puts(t, c, at(0, 4))
		acts(t, "Put", d, 0, func() {
			for _, x := range []tile.Tile{at(0, 1), at(0, 4), at(1, 2), {H: 8, W: 256}} {
				for _, n := range []int{0, 1, 32*x.W - 1, 32*x.W + 1, 32 * (x.W + 1), 1 << 20} {
					want(t, "Put", c.Put(x, make([]byte, n)), api.ErrWidth)
				}
				want(t, "Put of nil", c.Put(x, nil), api.ErrWidth)
			}
		})
		list := c.List()
		d.Crash(nil)
		want(t, "Put of another length on a dead disk", c.Put(at(1, 1), nil), api.ErrWidth)
		dead := api.ErrDead
		if room == 0 {
			dead = api.OK
		}
		want(t, "Put of another on a dead disk", c.Put(at(1, 1), make([]byte, 32)), dead)
		want(t, "Put of the same on a dead disk", c.Put(at(0, 4), make([]byte, 128)), dead)
		want(t, "Put of a narrower one on a dead disk", c.Put(at(0, 3), make([]byte, 96)), api.OK)
		lists(t, "on a dead disk", c, list...)
	}
}

func TestNarrowerPutIsUseOnADeadDisk(t *testing.T) { // P16.6: it calls no act
	d, c := begun(t, 2)
	puts(t, c, at(0, 2), at(1, 2))
	d.Crash(nil)
	puts(t, c, at(0, 1))
	lists(t, "Put", c, at(1, 2), at(0, 2))
}

func TestPutDoesTheseActs(t *testing.T) { // P16.6: each in its turn, whichever fails and however; what was removed is gone, the tile is no entry but as it was
	for _, room := range []int{2, 3} {
		for i, x := range []tile.Tile{at(0, 2), at(0, 1), at(0, 3), at(1, 2), at(1, 4), at(2, 2)} {
			for _, fault := range faults() {
				for n := range 5 {
					p := newPair(t, space, tileFile(at(0, 2), 0), tileFile(at(1, 2), 0))
					p.open("a", room)
					p.fail(n, fault)
					p.put(x, bytesOf(x, 1))
					if fault == api.ErrDead {
						p.agreeBehindCrashes("Put")
						continue
					}
					p.fail(0, fault)
					for _, y := range []tile.Tile{at(0, 1), at(1, 1), at(2, 1), x} {
						p.tile(y)
					}
					p.put(at(3, 1), bytesOf(at(3, 1), i))
					p.agreeBehindCrashes("Put")
				}
			}
		}
	}
}

func TestFailedPuts(t *testing.T) { // P16.6: what the entries are behind a fault
	for _, x := range []struct {
		t    tile.Tile
		n    int
		list []tile.Tile
	}{
		{at(2, 1), 1, []tile.Tile{at(0, 2), at(1, 2)}}, {at(2, 1), 2, []tile.Tile{at(1, 2)}}, {at(2, 1), 3, []tile.Tile{at(1, 2)}}, // another
		{at(0, 3), 1, []tile.Tile{at(0, 2), at(1, 2)}}, {at(0, 3), 2, []tile.Tile{at(1, 2)}}, {at(0, 3), 3, []tile.Tile{at(1, 2)}}, // a wider one
		{at(0, 2), 1, []tile.Tile{at(0, 2), at(1, 2)}}, {at(0, 2), 2, []tile.Tile{at(1, 2)}}, // the same
		{at(0, 1), 1, []tile.Tile{at(1, 2), at(0, 2)}}, // a narrower one: no act
	} {
		for _, fault := range faults() {
			d, c := begun(t, 2)
			puts(t, c, at(0, 2), at(1, 2))
			d.Fail(x.n, fault)
			e := fault
			if x.t == at(0, 1) {
				e = api.OK
			}
			want(t, "Put", c.Put(x.t, bytesOf(x.t, 1)), e)
			lists(t, "Put", c, x.list...)
		}
	}
}

func TestNoRoomForATile(t *testing.T) { // P16.6: the disk's own ErrFull comes when the old ones are gone
	d := made(t, 100)
	c := opened(t, d, "a", 2)
	puts(t, c, at(0, 1), at(1, 2))
	want(t, "Put of 64 bytes more", c.Put(at(0, 2), bytesOf(at(0, 2), 0)), api.ErrFull)
	lists(t, "Put", c, at(1, 2))
	hasNames(t, "Put", d, "cache/a/tile/2/0/000.p/2", "cache/a/tile/2/0/001.p/2")
	gives(t, c, at(0, 1), nil, api.ErrEntry)
	puts(t, c, at(0, 1))
	lists(t, "Put of less", c, at(1, 2), at(0, 1))
	lists(t, "opened anew", opened(t, d, "a", 2), at(0, 1), at(1, 2))
}

func TestNothingIsSynced(t *testing.T) { // P16.6: behind a crash the tile may be there or not
	d, c := begun(t, 2)
	puts(t, c, at(0, 1))
	if d.Pending() != 2 {
		t.Errorf("%d pending", d.Pending())
	}
	lists(t, "all is lost", opened(t, d.Crash(nil), "a", 2))
	lists(t, "the bytes are lost", opened(t, d.Crash([]int{1, 31}), "a", 2))
	lists(t, "nothing is lost", opened(t, d.Crash([]int{1, 32}), "a", 2), at(0, 1))
}

func TestDrop(t *testing.T) { // P16.7: whatever the width; one act; its error, and nothing is changed
	d, c := begun(t, 4)
	puts(t, c, at(0, 2), at(1, 4), at(2, 1))
	acts(t, "Drop", d, 1, func() { want(t, "Drop of another width", c.Drop(at(1, 1)), api.OK) })
	lists(t, "Drop", c, at(0, 2), at(2, 1))
	hasNames(t, "Drop", d, "cache/a/tile/2/0/000.p/2", "cache/a/tile/2/0/002.p/1")
	acts(t, "Drop of none", d, 0, func() {
		for _, x := range []tile.Tile{at(1, 4), at(1, 1), at(3, 1), {H: 2, L: 1, W: 2}, {H: 3, W: 2}} {
			want(t, "Drop of none", c.Drop(x), api.ErrEntry)
		}
	})
	gives(t, c, at(1, 1), nil, api.ErrEntry)
	for _, fault := range []api.Errno{api.ErrIO, api.ErrFull} {
		d.Fail(1, fault)
		want(t, "Drop with a fault", c.Drop(at(0, 4)), fault)
		lists(t, "Drop with a fault", c, at(0, 2), at(2, 1))
	}
	want(t, "Drop of a wider one", c.Drop(at(0, 4)), api.OK)
	d.Fail(1, api.ErrDead)
	want(t, "Drop, and dead", c.Drop(at(2, 1)), api.ErrDead)
	lists(t, "Drop, and dead", c, at(2, 1))
	want(t, "Drop on a dead disk", c.Drop(at(2, 1)), api.ErrDead)
	want(t, "Drop of none on a dead disk", c.Drop(at(0, 1)), api.ErrEntry)
	lists(t, "Drop on a dead disk", c, at(2, 1))
}

func TestGreatestRoom(t *testing.T) { // P16.1, P16.6, P16.8: 4096 entries, and no more
	d, c := begun(t, 4096)
	var all []tile.Tile
	for n := range int64(4100) {
		all = append(all, at(n, 1))
	}
	puts(t, c, all[:4096]...)
	lists(t, "4096", c, all[:4096]...)
	gives(t, c, all[0], bytesOf(all[0], 0), api.OK)
	puts(t, c, all[4096:]...)
	list := append(slices.Clone(all[5:4096]), all[0])
	lists(t, "four more", c, append(list, all[4096:]...)...)
	if n := len(d.List("")); n != 4096 {
		t.Errorf("%d files", n)
	}
	lists(t, "opened with room for 4095", opened(t, d, "a", 4095), append([]tile.Tile{all[0]}, all[5:4099]...)...)
}

func TestRoomIsKept(t *testing.T) { // P16.8: never more than room, whatever is put, and by the order of use
	for room := range 6 {
		d, c := begun(t, room)
		for n := range int64(20) {
			puts(t, c, at(n, 1))
			c.Tile(at(n-2, 1))
			if got := len(c.List()); got != min(room, int(n)+1) || len(d.List("")) != got {
				t.Fatalf("room %d: %d entries and %d files behind %d puts", room, got, len(d.List("")), n+1)
			}
		}
	}
	_, c := begun(t, 3)
	puts(t, c, tiles(0, 1, 2)...)
	c.Tile(at(0, 1))
	puts(t, c, tiles(3, 4)...)
	lists(t, "by the order of use", c, tiles(0, 3, 4)...)
	c.Drop(at(3, 1))
	puts(t, c, tiles(5)...)
	lists(t, "with room again", c, tiles(0, 4, 5)...)
}

func TestEmptyCache(t *testing.T) { // P16.2, P16.8, P0.1
	for _, room := range []int{0, 1, 4096} {
		_, c := begun(t, room)
		if len(c.Head()) != 0 || len(c.List()) != 0 {
			t.Errorf("Head %q, List %v", c.Head(), c.List())
		}
		gives(t, c, at(0, 1), nil, api.ErrEntry)
		want(t, "Drop", c.Drop(at(0, 1)), api.ErrEntry)
	}
	if c, e := cache.Open(made(t, 0), "a", 1); e != api.OK || c.Put(at(0, 1), make([]byte, 32)) != api.ErrFull || len(c.List()) != 0 {
		t.Error("a disk of no room")
	}
}
