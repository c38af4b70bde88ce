package client_test

import (
	"fmt"
	"math/rand"
	"slices"
	"strings"
	"testing"

	"ledger/api"
	"ledger/cache"
	"ledger/client"
	"ledger/disk"
	"ledger/tile"
)

// fileOf: the name of a tile's file in the cache.
func fileOf(t tile.Tile) string {
	path, e := tile.Path(t)
	if e != api.OK {
		panic(e)
	}
	return "cache/a/" + path
}

// turn: one bit of a tile's file, at its n-th byte.
func turn(t tile.Tile, n int) func(*disk.Disk) {
	return func(d *disk.Disk) {
		if b, e := d.Read(fileOf(t)); e == api.OK && n < len(b) {
			d.Write(fileOf(t), n, []byte{b[n] ^ 1})
		}
	}
}

// full: a pair that has all tiles of the book as of n which a lookup of these keys needs.
func full(t *testing.T, b *book, n, room int, keys ...int) *pair {
	t.Helper()
	p := newPair(t, configOf(b.k, b.h), room)
	for _, i := range keys {
		p.Lookup(keyOf(i))
		rounds(p, b, n)
		results(t, "Lookup", p.c, client.Result{Id: int64(i), Record: b.records[i]})
	}
	return p
}

// look up: a lookup up to the tiles.
func (p *pair) lookUp(b *book, i, n int) {
	p.t.Helper()
	p.Lookup(keyOf(i))
	round(p, b, n)
}

func TestCachedTilesAreNotAsked(t *testing.T) { // P17.9: nor a wider one of the same numbers; the others are, in the plan's order; all that came are put, in that order
	b := newBook(0, 1, recs(0, 7)...)
	p := full(t, b, 7, 50, 2)
	top, left, right, leaf, last := tile.Tile{H: 1, L: 2, W: 1}, tile.Tile{H: 1, L: 1, W: 2}, tile.Tile{H: 1, L: 1, N: 1, W: 1}, tile.Tile{H: 1, N: 1, W: 2}, tile.Tile{H: 1, N: 3, W: 1}
	all := []tile.Tile{top, left, right, leaf, last}
	if got := p.f.List(); !slices.Equal(got, all) {
		t.Errorf("List = %v; want %v", got, all)
	}
	p.lookUp(b, 3, 7)
	results(t, "another record of the tile", p.c, client.Result{Id: 3, Record: b.records[3]})
	p.lookUp(b, 0, 7)
	wants(t, "one tile is not there", p.c, "/tile/1/0/000")
	rounds(p, b, 7)
	if got := p.f.List(); !slices.Equal(got, []tile.Tile{leaf, top, left, right, last, {H: 1, W: 2}}) { // the one that this lookup needs not was used longest ago
		t.Errorf("List = %v", got)
	}
	for i, x := range all {
		p := full(t, b, 7, 50, 2)
		p.disks(func(d *disk.Disk) { d.Remove(fileOf(x)) })
		p.lookUp(b, 2, 7)
		path, _ := tile.Path(x)
		wants(t, "a file is gone", p.c, "/"+path)
		rounds(p, b, 7)
		results(t, "a file is gone", p.c, client.Result{Id: 2, Record: b.records[2]})
		if got, order := p.f.List(), append(slices.Delete(slices.Clone(all), i, i+1), x); !slices.Equal(got, order) {
			t.Errorf("List = %v; want %v", got, order)
		}
	}
	wide := newBook(0, 8, recs(0, 7)...)
	p = full(t, wide, 7, 50, 2)
	p.Merge(wide.note(5))
	results(t, "an older head", p.c, client.Result{}) // the tile of the greater one is cached
	q := newPair(t, configOf(0, 8), 50, disk.File{Name: "cache/a/tile/8/0/000.p/7", Data: []byte(tileData(wide, 7))})
	q.lookUp(wide, 2, 5)
	results(t, "a wider tile", q.c, client.Result{Id: 2, Record: wide.records[2]})
}

// tileData: of the one tile of a book of height 8.
func tileData(b *book, n int) string {
	data, _ := b.data(tile.Tile{H: 8, W: n}, n)
	return data
}

func TestSpoiltCachedTiles(t *testing.T) { // P17.9: all cached ones are dropped and wanted, whichever was at fault; the bytes that came are kept; then all are put
	b := newBook(0, 1, recs(0, 7)...)
	first := full(t, b, 7, 50, 2).f.List()
	for i, spoilt := range first {
		for j, gone := range first {
			if i == j {
				continue
			}
			p := full(t, b, 7, 50, 2)
			p.disks(func(d *disk.Disk) { d.Remove(fileOf(gone)) })
			p.disks(turn(spoilt, 9))
			facts, acts := len(p.c.Facts()), p.d.Acts()
			p.lookUp(b, 2, 7)
			path, _ := tile.Path(gone)
			wants(t, "one is gone", p.c, "/"+path)
			rest := slices.Delete(slices.Clone(first), j, j+1)
			var paths []string
			for _, x := range rest {
				path, _ := tile.Path(x)
				paths = append(paths, "/"+path)
			}
			round(p, b, 7)
			wants(t, "one is spoilt", p.c, paths...)
			if got := p.f.List(); len(got) != 0 || p.d.Acts() != acts+len(rest) || p.c.Result().Err != api.ErrState {
				t.Errorf("List = %v, %d acts", got, p.d.Acts()-acts)
			}
			round(p, b, 7)
			results(t, "fetched", p.c, client.Result{Id: 2, Record: b.records[2]})
			if got := p.f.List(); !slices.Equal(got, first) || len(p.c.Facts()) != facts+1 {
				t.Errorf("List = %v; want %v", got, first)
			}
		}
	}
}

func TestFetchedTilesThatFailToo(t *testing.T) { // P17.9: ErrAuth at the second reading, or an error of an answer; the cached ones are gone, and nothing is put
	b := newBook(0, 1, recs(0, 7)...)
	all := full(t, b, 7, 50, 2).f.List()
	for _, x := range []struct {
		spoil func(answer []byte) []byte
		e     api.Errno
	}{
		{func(a []byte) []byte { return unlike(a, len(a)-1) }, api.ErrAuth}, {func(a []byte) []byte { return a[1:] }, api.ErrResponse}, {func(a []byte) []byte { return answerOf(404, "") }, api.ErrRefused}, {func(a []byte) []byte { return ok("x") }, api.ErrBody},
	} {
		for i := range all {
			p := full(t, b, 7, 50, 2)
			head := p.c.Head()
			facts := tell(p.c.Facts())
			p.disks(turn(all[0], 0))
			p.lookUp(b, 2, 7)
			var answers [][]byte
			for j, w := range p.Wants() {
				answers = append(answers, b.answer(w, 7))
				if i == j {
					answers[j] = x.spoil(answers[j])
				}
			}
			p.Give(answers)
			refused(t, "a spoilt tile in place of a spoilt one", p.c, x.e)
			if len(p.f.List()) != 0 || p.c.Head() != head || tell(p.c.Facts()) != facts || string(p.f.Head()) != b.note(7) {
				t.Errorf("List = %v, Head %+v", p.f.List(), p.c.Head())
			}
			p.lookUp(b, 2, 7)
			rounds(p, b, 7)
			results(t, "behind it", p.c, client.Result{Id: 2, Record: b.records[2]})
		}
	}
}

func TestFetchedAtFaultBesideCached(t *testing.T) { // P17.9: the cached ones are dropped all the same; the fetched ones are kept, and fail again
	b := newBook(0, 1, recs(0, 7)...)
	p := full(t, b, 7, 50, 2)
	p.lookUp(b, 0, 7)
	wants(t, "one is not there", p.c, "/tile/1/0/000")
	a := b.answer(p.Wants()[0], 7)
	p.Give([][]byte{unlike(a, len(a)-1)})
	wants(t, "the cached ones", p.c, "/tile/1/2/000.p/1", "/tile/1/1/000", "/tile/1/1/001.p/1", "/tile/1/0/003.p/1")
	if got := p.f.List(); !slices.Equal(got, []tile.Tile{{H: 1, N: 1, W: 2}}) { // of no use to this lookup
		t.Errorf("List = %v", got)
	}
	round(p, b, 7)
	refused(t, "the one that came first is spoilt still", p.c, api.ErrAuth)
}

func TestQuitBetween(t *testing.T) { // P17.6, P17.9: cached tiles that did not check are gone
	b := newBook(0, 1, recs(0, 7)...)
	p := full(t, b, 7, 50, 2)
	p.disks(turn(p.f.List()[2], 31))
	p.lookUp(b, 2, 7)
	p.Quit()
	refused(t, "Quit", p.c, api.ErrTimeout)
	if len(p.f.List()) != 0 {
		t.Errorf("List = %v", p.f.List())
	}
}

func TestCacheChangesNoResult(t *testing.T) { // P17.9, P17.10: empty, without room, partial, old, spoilt, of another log: the same results and facts
	t.Parallel()
	const most = 21
	for _, h := range []int{1, 2, 8} {
		b, fork := newBook(0, h, recs(0, most)...), newBook(0, h, recs(0, most, 8)...)
		story := func(room int, between func(r *rand.Rand, p *pair), seed int64) string {
			var out strings.Builder
			r := rand.New(rand.NewSource(seed))
			choice := rand.New(rand.NewSource(1))
			p := newPair(t, configOf(0, h), room)
			for step := range 30 {
				between(r, p)
				n := min(most, step+1)
				switch choice.Intn(4) {
				case 0:
					p.Latest()
				case 1:
					p.Merge(b.note(choice.Intn(n) + 1))
				default:
					p.Lookup(keyOf(choice.Intn(n)))
				}
				told := max(n, choice.Intn(2)*most) // as of now, or of the end
				if len(p.Wants()) > 0 && !strings.Contains(targetsOf(p.c), "/tile/") {
					round(p, b, told)
				}
				rounds(p, b, most)
				fmt.Fprintln(&out, tell(p.c.Result()))
			}
			holds(t, p.conf, b.head(0), p.c.Facts())
			return out.String() + tell(p.c.Facts())
		}
		plain := story(100, func(*rand.Rand, *pair) {}, 0)
		if strings.Count(plain, "Err:ledger: refused with 0 ") != 30 {
			t.Fatalf("the story is of refusals:\n%s", plain[:2000])
		}
		for name, between := range map[string]func(r *rand.Rand, p *pair){
			"kept":    func(*rand.Rand, *pair) {},
			"spoilt":  spoilSome,
			"partial": removeSome,
			"foreign": func(r *rand.Rand, p *pair) { layTiles(r, p, fork, most) },
			"new":     func(r *rand.Rand, p *pair) { layTiles(r, p, b, most) },
		} {
			for _, room := range []int{0, 1, 3, 100} {
				if story(room, between, int64(room)) != plain {
					t.Errorf("height %d, %s, room %d: another story", h, name, room)
				}
			}
		}
	}
}

// spoilSome: bits of some cached tiles are turned.
func spoilSome(r *rand.Rand, p *pair) {
	for _, x := range p.f.List() {
		if r.Intn(3) == 0 {
			p.disks(turn(x, r.Intn(32*x.W)))
		}
	}
}

// removeSome: files of the cache go, or lose their length.
func removeSome(r *rand.Rand, p *pair) {
	for _, x := range p.f.List() {
		switch r.Intn(6) {
		case 0:
			p.disks(func(d *disk.Disk) { d.Remove(fileOf(x)) })
		case 1:
			p.disks(func(d *disk.Disk) { d.Write(fileOf(x), 32*x.W, []byte("x")) })
		case 2:
			p.disks(func(d *disk.Disk) { d.Create(fileOf(x)) })
		}
	}
}

// layTiles: some tiles of a book, as of some size, come into the cache.
func layTiles(r *rand.Rand, p *pair, b *book, most int) {
	size := r.Intn(most + 1)
	all, _ := tile.All(b.h, int64(size))
	for _, x := range all {
		if r.Intn(2) == 0 {
			data, _ := b.data(x, size)
			p.f.Put(x, []byte(data))
			p.g.Put(x, []byte(data))
		}
	}
}

func TestMovesThatFail(t *testing.T) { // P17.9, P17.10: each act of SetHead in its turn, whichever fails and however: the head is what it was, nothing is laid down and no tile put
	b := newBook(0, 1, recs(0, 9)...)
	for _, fault := range []api.Errno{api.ErrIO, api.ErrFull, api.ErrDead} {
		for n := 1; n <= 12; n++ {
			p := full(t, b, 5, 50, 2)
			facts, list := tell(p.c.Facts()), p.f.List()
			p.lookUp(b, 2, 9)
			p.disks(func(d *disk.Disk) { d.Fail(n, fault) })
			rounds(p, b, 9)
			if n > 5 {
				results(t, "the tiles can't be put", p.c, client.Result{Id: 2, Record: b.records[2]})
				continue
			}
			refused(t, "the head can't be set", p.c, fault)
			if p.c.Head() != b.head(5) || string(p.c.Note()) != b.note(5) || string(p.f.Head()) != b.note(5) || tell(p.c.Facts()) != facts || !sameTiles(p.f.List(), list) {
				t.Errorf("act %d, %d: Head %+v, List %v", n, int(fault), p.c.Head(), p.f.List())
			}
			p.lookUp(b, 2, 9)
			rounds(p, b, 9)
			if fault == api.ErrDead {
				refused(t, "a dead disk", p.c, api.ErrDead)
			} else if n == 5 {
				refused(t, "the file has moved, but not the session", p.c, api.ErrMoved)
			} else {
				results(t, "tried again", p.c, client.Result{Id: 2, Record: b.records[2]})
			}
		}
	}
}

// sameTiles: in any order: those that were asked for were used.
func sameTiles(a, b []tile.Tile) bool {
	for _, x := range a {
		if !slices.Contains(b, x) {
			return false
		}
	}
	return len(a) == len(b)
}

func TestHeadMovedByAnother(t *testing.T) { // P17.9: ErrMoved, by another session or by whoever writes the file; a task that moves no head goes on
	b := newBook(0, 2, recs(0, 9)...)
	for name, move := range map[string]func(p *pair){
		"another session": func(p *pair) {
			for _, d := range []*disk.Disk{p.d, p.twin} {
				f, _ := cache.Open(d, "a", 50)
				c, _ := client.New(p.conf, f)
				c.Merge([]byte(b.note(6)))
				rounds(c, b, 6)
			}
		},
		"the same cache": func(p *pair) {
			p.f.SetHead([]byte(b.note(5)), []byte("x"))
			p.g.SetHead([]byte(b.note(5)), []byte("x"))
		},
		"a byte":         func(p *pair) { p.disks(func(d *disk.Disk) { d.Write("cache/a/head", 3, []byte("#")) }) },
		"the file gone":  func(p *pair) { p.disks(func(d *disk.Disk) { d.Remove("cache/a/head") }) },
		"the older head": func(p *pair) { p.disks(func(d *disk.Disk) { d.Write("cache/a/head", 0, []byte(b.note(4))) }) },
	} {
		p := full(t, b, 5, 50, 2)
		move(p)
		files := filesOf(p.d)
		facts := len(p.c.Facts())
		p.Merge(b.note(9))
		rounds(p, b, 9)
		refused(t, name, p.c, api.ErrMoved)
		p.lookUp(b, 8, 9)
		rounds(p, b, 9)
		refused(t, name, p.c, api.ErrMoved)
		if p.c.Head() != b.head(5) || len(p.c.Facts()) != facts || filesOf(p.d) != files {
			t.Errorf("%s: Head %+v, %d facts", name, p.c.Head(), len(p.c.Facts()))
		}
		p.lookUp(b, 2, 4)
		rounds(p, b, 5)
		results(t, name, p.c, client.Result{Id: 2, Record: b.records[2]})
	}
}

func TestDiskThatFails(t *testing.T) { // P17.9: errors of the cache but SetHead's are let go: what can't be read is wanted, what can't be put or dropped is not
	b := newBook(0, 1, recs(0, 7)...)
	for _, fault := range []api.Errno{api.ErrIO, api.ErrFull, api.ErrDead} {
		for n := range 16 {
			p := full(t, b, 7, 5, 2)
			p.disks(turn(p.f.List()[1], 5))
			p.disks(func(d *disk.Disk) { d.Fail(n, fault) })
			p.lookUp(b, 0, 7)
			rounds(p, b, 7)
			results(t, "Lookup", p.c, client.Result{Record: b.records[0]})
			p.lookUp(b, 6, 7)
			rounds(p, b, 7)
			results(t, "Lookup behind it", p.c, client.Result{Id: 6, Record: b.records[6]})
		}
	}
	p := full(t, b, 7, 50, 2)
	p.disks(func(d *disk.Disk) { d.Crash(nil) })
	for range 2 {
		p.lookUp(b, 2, 7)
		wants(t, "a dead disk", p.c, "/tile/1/2/000.p/1", "/tile/1/1/000", "/tile/1/1/001.p/1", "/tile/1/0/001", "/tile/1/0/003.p/1")
		rounds(p, b, 7)
		results(t, "a dead disk", p.c, client.Result{Id: 2, Record: b.records[2]})
	}
	q := newPair(t, configOf(0, 1), 50)
	q.disks(func(d *disk.Disk) { d.Crash(nil) })
	q.Merge(b.note(7))
	refused(t, "a dead disk", q.c, api.ErrDead)
}

func TestNoRoomOnTheDisk(t *testing.T) { // P17.9: for the head or for tiles: the disk's own ErrFull
	b := newBook(0, 2, recs(0, 9)...)
	refusals := 0
	for room := int64(0); room < 1000; room += 9 {
		p := newPair(t, configOf(0, 2), 50)
		p.d, _ = disk.New(room)
		p.twin, _ = disk.New(room)
		p.open(50)
		p.lookUp(b, 8, 9)
		rounds(p, b, 9)
		switch e := p.c.Result().Err; {
		case e == api.ErrFull && room < int64(len(b.note(9))):
			refusals++
		case e != api.OK:
			t.Errorf("with room for %d bytes: %d", room, int(e))
		}
	}
	if refusals < 10 {
		t.Errorf("%d refusals", refusals)
	}
}

func TestHeadLasts(t *testing.T) { // P17.9, P17.10: behind every crash a new session trusts the last head that was accepted, or the one that was under way
	b := newBook(0, 2, recs(0, 12)...)
	for n := 1; n <= 8; n++ {
		for _, fault := range []api.Errno{api.ErrIO, api.ErrDead} {
			for choice := range 12 {
				p := full(t, b, 5, 50, 2)
				p.disks(func(d *disk.Disk) { d.Fail(n, fault) })
				p.lookUp(b, 7, 9)
				rounds(p, b, 9)
				size := p.c.Head().Size
				p.crash([]int{choice, choice, 7, choice})
				want(t, "New behind a crash", p.open(50), api.OK)
				if got := p.c.Head().Size; got < size || got != 5 && got != 9 {
					t.Errorf("act %d fails, %d: the head was of %d, and is of %d", n, int(fault), size, got)
				}
				p.lookUp(b, 11, 12)
				rounds(p, b, 12)
				results(t, "behind a crash", p.c, client.Result{Id: 11, Record: b.records[11]})
			}
		}
	}
}
