package cache_test

import (
	"bytes"
	"fmt"
	"math/rand"
	"slices"
	"testing"

	"ledger/api"
	"ledger/cache"
	"ledger/disk"
	"ledger/tile"
)

// keeper: what the caches of one name on a disk were given, of which P16.4 and P16.9 speak.
type keeper struct {
	t     *testing.T
	sure  string              // the head of the last SetHead that answered OK
	maybe []string            // behind it, those that answered an error of the disk
	given map[string][][]byte // what was put, by the tile's numbers
}

func newKeeper(t *testing.T) *keeper { return &keeper{t: t, given: map[string][][]byte{}} }

func numbers(x tile.Tile) string { return fmt.Sprint(x.H, x.L, x.N) }

func (w *keeper) setHead(c *cache.Cache, next string) api.Errno {
	w.t.Helper()
	old := string(c.Head())
	e := c.SetHead([]byte(old), []byte(next))
	switch e {
	case api.OK:
		w.sure, w.maybe = next, nil
	case api.ErrIO, api.ErrFull, api.ErrDead:
		w.maybe = append(w.maybe, next)
	case api.ErrMoved:
		if len(w.maybe) == 0 {
			w.t.Fatal("SetHead = ErrMoved, and nobody has moved the head")
		}
	}
	if now := string(c.Head()); e != api.OK && now != old || e == api.OK && now != next {
		w.t.Fatalf("Head = %q behind SetHead(%q, %q) = %d", now, old, next, int(e))
	}
	return e
}

func (w *keeper) put(c *cache.Cache, x tile.Tile, salt int) api.Errno {
	data := bytesOf(x, salt)
	w.given[numbers(x)] = append(w.given[numbers(x)], data)
	return c.Put(x, data)
}

// judge: the cache tells a head that may be, and its tiles are what was given. What Open tells lasts.
func (w *keeper) judge(c *cache.Cache) {
	w.t.Helper()
	head := string(c.Head())
	if head != w.sure && !slices.Contains(w.maybe, head) {
		w.t.Fatalf("Head = %q; want %q or one of %q", head, w.sure, w.maybe)
	}
	w.sure, w.maybe = head, nil
	for _, x := range c.List() {
		w.ask(c, x)
	}
}

func (w *keeper) ask(c *cache.Cache, x tile.Tile) {
	w.t.Helper()
	b, e := c.Tile(x)
	ok := slices.ContainsFunc(w.given[numbers(x)], func(data []byte) bool { return bytes.HasPrefix(data, b) })
	if e == api.OK && (!ok || len(b) != 32*x.W) {
		w.t.Fatalf("Tile(%v) = %q, which nobody has put", x, b)
	}
}

// fork: one that goes on by itself.
func (w *keeper) fork() *keeper {
	other := *w
	other.maybe = slices.Clone(w.maybe)
	return &other
}

func TestEveryCrashOfSetHead(t *testing.T) { // P16.4: at every act, by every fault, whatever a crash leaves; and on from there
	for _, first := range []string{"", "xx", "a longer head than the next"} {
		for _, next := range []string{"yyy", ""} {
			for n := range 6 {
				for _, fault := range faults() {
					w := newKeeper(t)
					d, c := begun(t, 2)
					w.setHead(c, first)
					w.put(c, at(0, 2), 0)
					d.Fail(n, fault)
					w.setHead(c, next)
					for _, choices := range crashes(d) {
						v := w.fork()
						g := d.Crash(choices)
						u := opened(t, g, "a", 2)
						v.judge(u)
						v.judge(opened(t, g.Crash(choices), "a", 2))
					}
				}
			}
		}
	}
}

func TestCrashBetweenTwoHeads(t *testing.T) { // P16.4: a head that was set behind one that failed
	for n := 1; n <= 5; n++ {
		for m := range 6 {
			for _, fault := range []api.Errno{api.ErrIO, api.ErrFull} {
				w := newKeeper(t)
				d, c := begun(t, 2)
				w.setHead(c, "first")
				d.Fail(n, fault)
				w.setHead(c, "second")
				d.Fail(m, api.ErrDead)
				w.setHead(c, "third")
				for _, choices := range crashes(d) {
					w.fork().judge(opened(t, d.Crash(choices), "a", 2))
				}
			}
		}
	}
}

func TestOpenedHeadLasts(t *testing.T) { // P16.1, P16.4: on a disk that runs on: what the new cache tells stays, whatever the choices
	for n := 1; n <= 5; n++ {
		for _, fault := range []api.Errno{api.ErrIO, api.ErrFull} {
			w := newKeeper(t)
			d, c := begun(t, 2)
			w.setHead(c, "first")
			d.Fail(n, fault)
			w.setHead(c, "second")
			w.judge(opened(t, d, "a", 2))
			for _, choices := range [][]int{nil, {1}, {2}, {-1, -1}} {
				w.judge(opened(t, d.Crash(choices), "a", 2))
			}
		}
	}
}

func TestEveryCrashOfOpen(t *testing.T) { // P16.1, P16.4: an Open that fails loses no head
	for n := 1; n <= 6; n++ {
		for _, fault := range faults() {
			w := newKeeper(t)
			d, c := begun(t, 3)
			w.setHead(c, "first")
			for i := range int64(3) {
				w.put(c, at(i, 1), 0)
			}
			d.Fail(5, api.ErrIO)
			w.setHead(c, "second")
			d.Fail(n, fault)
			u, e := cache.Open(d, "a", 1)
			if (u == nil) != (e != api.OK) {
				t.Fatalf("Open = %v, %d", u != nil, int(e))
			}
			if u != nil {
				w.judge(u)
			}
			for _, choices := range crashes(d) {
				w.fork().judge(opened(t, d.Crash(choices), "a", 3))
			}
		}
	}
}

func TestEveryCrashOfPut(t *testing.T) { // P16.9: no part of a tile is ever told, nor one put together of two
	for _, x := range []tile.Tile{at(0, 3), at(0, 2), at(0, 4), at(1, 2), at(2, 2)} {
		for n := range 4 {
			for _, fault := range faults() {
				for _, synced := range []bool{false, true} {
					w := newKeeper(t)
					d, c := begun(t, 2)
					w.put(c, at(0, 3), 1)
					w.put(c, at(1, 2), 2)
					if synced {
						c = opened(t, d, "a", 2)
						d.Sync("cache/a/tile/2/0/000.p/3")
						d.Sync("cache/a/tile/2/0/001.p/2")
					}
					d.Fail(n, fault)
					w.put(c, x, 3)
					w.judge(c)
					for _, choices := range crashes(d) {
						w.judge(opened(t, d.Crash(choices), "a", 3))
					}
				}
			}
		}
	}
}

func anyChoices(r *rand.Rand) []int {
	var out []int
	for range r.Intn(8) {
		out = append(out, r.Intn(140)-10)
	}
	return out
}

// anyTile: mostly one that may be.
func anyTile(r *rand.Rand) tile.Tile {
	if r.Intn(30) == 0 {
		list := noTiles()
		return list[r.Intn(len(list))]
	}
	h := 1 + r.Intn(2)
	return tile.Tile{H: h, L: r.Intn(2), N: int64(r.Intn(3)), W: 1 + r.Intn(1<<h)}
}

func anyData(r *rand.Rand, x tile.Tile) []byte {
	if x.W < 1 || x.W > 256 || r.Intn(30) == 0 {
		return make([]byte, r.Intn(200))
	}
	return bytesOf(x, r.Int())
}

// others: what somebody else does to the cache's files.
func (p *pair) others(r *rand.Rand) {
	name := "cache/a/head"
	if x := anyTile(r); r.Intn(4) > 0 && !x.Data && tile.Check(x) == api.OK {
		name = "cache/a/" + pathOf(x)
	}
	kind, place, data := r.Intn(4), r.Intn(130), bytesOf(at(9, 1+r.Intn(4)), r.Int())
	p.both(func(d *disk.Disk) {
		switch kind {
		case 0:
			d.Remove(name)
		case 1:
			d.Create(name)
			d.Write(name, 0, data)
		case 2:
			d.Write(name, place, []byte("x"))
		case 3:
			d.Sync(name)
		}
	})
}

// step: any one call.
func (p *pair) step(r *rand.Rand) {
	p.t.Helper()
	x := anyTile(r)
	switch r.Intn(12) {
	case 0, 1, 2, 3:
		p.put(x, anyData(r, x))
	case 4, 5, 6:
		p.tile(x)
	case 7:
		p.drop(x)
	case 8, 9:
		old := p.m.head
		if r.Intn(5) == 0 {
			old = "another"
		}
		p.setHead(old, fmt.Sprint("head ", r.Intn(1000))[:r.Intn(6)])
	case 10:
		p.open("a", r.Intn(6))
	case 11:
		if r.Intn(3) == 0 {
			p.others(r)
		}
	}
}

func TestLongLives(t *testing.T) { // P16.1 to P16.8, P0.1: any calls, faults, crashes, acts of others, against the model on a twin; room that runs out
	t.Parallel()
	opens, used := 0, 0
	for seed := range 400 {
		r := rand.New(rand.NewSource(int64(seed)))
		room := int64(space)
		if r.Intn(3) == 0 {
			room = int64(100 + r.Intn(600))
		}
		p := newPair(t, room)
		for range 120 {
			if r.Intn(8) == 0 {
				p.fail(r.Intn(9), faults()[r.Intn(3)])
			}
			if p.c == nil || r.Intn(25) == 0 {
				if r.Intn(2) == 0 || isDead(p.d) {
					p.crash(anyChoices(r))
				}
				if p.open("a", r.Intn(6)) != api.OK {
					continue
				}
				opens++
			}
			p.step(r)
			if p.c != nil {
				used += len(p.c.List())
			}
		}
		if !isDead(p.d) {
			p.agreeBehindCrashes(fmt.Sprint("seed ", seed))
		}
	}
	if opens < 2000 || used < 20000 {
		t.Errorf("%d caches were opened, %d entries were listed", opens, used)
	}
}

func TestLivesThatLast(t *testing.T) { // P16.4, P16.9: any calls, faults and crashes, and nobody else writes
	t.Parallel()
	heads, asked := 0, 0
	for seed := range 300 {
		r := rand.New(rand.NewSource(int64(seed)))
		w := newKeeper(t)
		d := made(t, int64(200+r.Intn(2000)))
		var c *cache.Cache
		for i := range 80 {
			if r.Intn(6) == 0 {
				d.Fail(1+r.Intn(6), faults()[r.Intn(3)])
			}
			if c == nil || isDead(d) || r.Intn(15) == 0 {
				if isDead(d) || r.Intn(2) == 0 {
					d = d.Crash(anyChoices(r))
				}
				if c, _ = cache.Open(d, "a", r.Intn(5)); c == nil {
					continue
				}
				w.judge(c)
				heads++
			}
			x := anyTile(r)
			switch {
			case r.Intn(5) == 0:
				w.setHead(c, fmt.Sprint("head ", i))
			case x.Data || tile.Check(x) != api.OK:
			case r.Intn(2) == 0:
				w.put(c, x, r.Int())
			default:
				w.ask(c, x)
				asked++
			}
		}
	}
	if heads < 2000 || asked < 2000 {
		t.Errorf("%d heads were judged, %d tiles asked", heads, asked)
	}
}
