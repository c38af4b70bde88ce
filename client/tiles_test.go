package client_test

import (
	"fmt"
	"slices"
	"strings"
	"testing"

	"ledger/api"
	"ledger/client"
	"ledger/note"
	"ledger/proof"
	"ledger/tile"
	"ledger/tlog"
)

// holds: P17.10, of a session that began with this head.
func holds(t *testing.T, conf client.Config, first note.Head, facts []client.Fact) {
	t.Helper()
	k, head := conf.Strength, first
	for i, f := range facts {
		switch f.Kind {
		case client.Moved:
			if f.Old != head || f.Head.Size <= head.Size {
				t.Errorf("fact %d: moved from %+v to %+v; the head was %+v", i, f.Old, f.Head, head)
			}
			head = f.Head
			n, e := note.Open(f.Note, []string{conf.Verifier})
			if h, g := note.ParseHead(n.Text); e != api.OK || g != api.OK || h != f.Head {
				t.Errorf("fact %d: moved with the note %q", i, f.Note)
			}
			if f.Old.Size == 0 && len(f.Proof) != 0 || f.Old.Size > 0 && proof.CheckTree(k, f.Proof, f.Head.Size, f.Head.Root, f.Old.Size, f.Old.Root) != api.OK {
				t.Errorf("fact %d: moved with a proof that does not check", i)
			}
		case client.Agreed:
			if f.Head != head || proof.CheckTree(k, f.Proof, f.Head.Size, f.Head.Root, f.Old.Size, f.Old.Root) != api.OK {
				t.Errorf("fact %d: agreed from %+v to %+v", i, f.Old, f.Head)
			}
		case client.Accepted:
			leaf := tlog.LeafHash(k, []byte(f.Record))
			if f.Head != head || proof.CheckRecord(k, f.Proof, f.Head.Size, f.Head.Root, f.Id, leaf) != api.OK {
				t.Errorf("fact %d: accepted %q in %+v", i, f.Record, f.Head)
			}
		default:
			t.Errorf("fact %d: of kind %d", i, f.Kind)
		}
	}
}

// sizesFor: those that are tried with a height.
func sizesFor(h int) []int {
	if h < 3 {
		return []int{0, 1, 2, 3, 4, 5, 6, 7, 8, 9, 12}
	}
	return []int{0, 1, 2, 3, 7, 8, 9}
}

func TestAllGrowths(t *testing.T) { // P17.2, P17.8, P17.9, P17.10: from each size to each, by a merge and by lookups; with the proofs that the tree has
	t.Parallel()
	for _, h := range []int{1, 2, 3, 8} {
		sizes := sizesFor(h)
		b := newBook(0, h, recs(0, 12)...)
		for _, n := range sizes {
			for _, m := range sizes {
				g := max(n, m)
				p := newPair(t, configOf(0, h), 50)
				p.Merge(b.note(n))
				p.Merge(b.note(m))
				rounds(p, b, g)
				results(t, "Merge", p.c, client.Result{})
				for i := range m {
					p := newPair(t, configOf(0, h), 50)
					p.Merge(b.note(n))
					p.Lookup(keyOf(i))
					round(p, b, m)
					rounds(p, b, g)
					results(t, "Lookup", p.c, client.Result{Id: int64(i), Record: b.records[i]})
					if p.c.Head() != b.head(g) {
						t.Errorf("height %d, from %d to %d: Head %+v", h, n, m, p.c.Head())
					}
					facts := p.c.Facts()
					holds(t, p.conf, b.head(0), facts)
					last := facts[len(facts)-1]
					if way, _ := proof.Record(0, b.stored, int64(g), int64(i)); last.Kind != client.Accepted || !slices.Equal(last.Proof, way) || last.Head != b.head(g) {
						t.Errorf("height %d, from %d to %d: %+v", h, n, m, last)
					}
					if small := min(n, m); small > 0 && small < g {
						between := facts[len(facts)-2]
						if tree, _ := proof.Tree(0, b.stored, int64(g), int64(small)); !slices.Equal(between.Proof, tree) || between.Old != b.head(small) || between.Head != b.head(g) || string(between.Note) != b.note(m) {
							t.Errorf("height %d, from %d to %d: %+v", h, n, m, between)
						}
					}
				}
			}
		}
	}
}

func TestTilesAreThoseOfThePlan(t *testing.T) { // P17.4, P17.9: of the greater head, in the plan's order
	b := newBook(0, 1, recs(0, 7)...)
	for _, x := range []struct {
		from, to, id int
		targets      string
	}{
		{0, 1, 0, "/tile/1/0/000.p/1"}, {0, 2, 1, "/tile/1/1/000.p/1 /tile/1/0/000"}, {0, 7, 6, "/tile/1/2/000.p/1 /tile/1/1/001.p/1 /tile/1/0/003.p/1"},
		{0, 7, 0, "/tile/1/2/000.p/1 /tile/1/1/000 /tile/1/1/001.p/1 /tile/1/0/000 /tile/1/0/003.p/1"},
		{7, 7, 2, "/tile/1/2/000.p/1 /tile/1/1/000 /tile/1/1/001.p/1 /tile/1/0/001 /tile/1/0/003.p/1"},
		{3, 7, -1, "/tile/1/2/000.p/1 /tile/1/1/000 /tile/1/1/001.p/1 /tile/1/0/001 /tile/1/0/003.p/1"},
		{7, 3, -1, "/tile/1/2/000.p/1 /tile/1/1/000 /tile/1/1/001.p/1 /tile/1/0/001 /tile/1/0/003.p/1"},
		{4, 7, -1, "/tile/1/2/000.p/1 /tile/1/1/001.p/1 /tile/1/0/003.p/1"},
		{4, 7, 0, "/tile/1/2/000.p/1 /tile/1/1/000 /tile/1/1/001.p/1 /tile/1/0/000 /tile/1/0/003.p/1"},
		{7, 4, -1, "/tile/1/2/000.p/1 /tile/1/1/001.p/1 /tile/1/0/003.p/1"},
		{0, 7, -1, ""}, {7, 0, -1, ""}, {7, 7, -1, ""},
	} {
		p := newPair(t, configOf(0, 1), 0)
		p.Merge(b.note(x.from))
		if x.id < 0 {
			p.Merge(b.note(x.to))
		} else {
			p.Lookup(keyOf(x.id))
			round(p, b, x.to)
		}
		wants(t, fmt.Sprint(x), p.c, strings.Fields(x.targets)...)
		rounds(p, b, max(x.from, x.to))
		want(t, fmt.Sprint(x), p.c.Result().Err, api.OK)
	}
}

func TestEveryBitOfTiles(t *testing.T) { // P17.9: one that is not the tree's is ErrAuth, never a fork; one of another length ErrBody
	b := newBook(0, 1, recs(0, 7)...)
	path, version := keyOf(2)
	for _, n := range []int{0, 3, 7} {
		c, f, d := at(t, configOf(0, 1), b, n)
		before := told(c, f, d)
		c.Lookup(path, version)
		round(c, b, 7)
		tiles := c.Wants()
		c.Quit()
		for i, w := range tiles {
			_, data := b.tell(targetOf(w), 7)
			try := func(spoilt string, e api.Errno) {
				t.Helper()
				c.Lookup(path, version)
				round(c, b, 7)
				var answers [][]byte
				for j, w := range c.Wants() {
					answers = append(answers, b.answer(w, 7))
					if j == i {
						answers[j] = ok(spoilt)
					}
				}
				c.Give(answers)
				refused(t, "a spoilt tile", c, e)
			}
			for at := range data {
				try(string(unlike([]byte(data), at)), api.ErrAuth)
			}
			try(data[:len(data)-1], api.ErrBody)
			try(data+"x", api.ErrBody)
			try(data[:len(data)-32], api.ErrBody)
			try(data+data, api.ErrBody)
			try("", api.ErrBody)
			try(data[1:]+data[:1], api.ErrAuth)
		}
		if told(c, f, d) != before {
			t.Errorf("behind the refusals:\n%s; was\n%s", told(c, f, d), before)
		}
	}
}

func TestForksOfAllSizes(t *testing.T) { // P17.7, P17.9: two logs that part behind some records: a fork where both heads are beyond them, whoever was first; else none
	t.Parallel()
	const most = 6
	for _, h := range []int{1, 2, 8} {
		b := newBook(0, h, recs(0, most)...)
		for parts := range most {
			fork := newBook(0, h, append(recs(0, parts), recs(parts, most, 5)...)...)
			for n := range most + 1 {
				for m := range most + 1 {
					great, g := b, n
					if m > n {
						great, g = fork, m
					}
					for _, isLookup := range []bool{false, true} {
						p := newPair(t, configOf(0, h), 50)
						p.Merge(b.note(n))
						before := told(p.c, p.f, p.d)
						if isLookup {
							p.Lookup(keyOf(0))
							if m == 0 {
								continue
							}
							p.Give([][]byte{ok(fork.body(0, m))})
						} else {
							p.Merge(fork.note(m))
						}
						rounds(p, great, g)
						if min(n, m) <= parts {
							want(t, "no fork", p.c.Result().Err, api.OK)
							continue
						}
						isForkOf(t, p, b, n, fork, m)
						if told(p.c, p.f, p.d) != before {
							t.Errorf("height %d, %d and %d: a fork has changed something", h, n, m)
						}
					}
				}
			}
		}
	}
}

// isForkOf: the trusted head of n and the other one of m, with what proves it to everybody.
func isForkOf(t *testing.T, p *pair, b *book, n int, fork *book, m int) {
	t.Helper()
	want := client.Fork{Small: []byte(b.note(n)), Great: []byte(fork.note(m)), Root: fork.root(min(n, m))}
	great, g, small := fork, m, b
	if m < n {
		want = client.Fork{Small: []byte(fork.note(m)), Great: []byte(b.note(n)), Root: b.root(m)}
		great, g, small = b, n, fork
	}
	s := min(n, m)
	if n != m {
		want.Proof, _ = proof.Tree(0, great.stored, int64(g), int64(s))
	}
	results(t, fmt.Sprintf("%d and %d", n, m), p.c, client.Result{Err: api.ErrFork, Fork: want})
	f := p.c.Result().Fork
	if proof.CheckTree(0, f.Proof, int64(g), great.root(g), int64(s), f.Root) != api.OK || f.Root == small.root(s) {
		t.Errorf("%d and %d: the fork proves nothing", n, m)
	}
}

func TestForkAheadOfInclusion(t *testing.T) { // P17.9: and tiles that do not check ahead of both
	b, fork := newBook(0, 2, recs(0, 9)...), newBook(0, 2, recs(0, 9, 5)...)
	begin := func() *pair {
		p := newPair(t, configOf(0, 2), 20)
		p.Merge(b.note(3))
		p.Lookup(keyOf(1))
		p.Give([][]byte{ok("2\n" + rec(1, 7) + "\n" + fork.note(9))})
		return p
	}
	p := begin()
	rounds(p, fork, 9)
	want(t, "a fork, and a record that is not there", p.c.Result().Err, api.ErrFork)
	p = begin()
	rounds(p, b, 9)
	refused(t, "tiles of the other log", p.c, api.ErrAuth)
}

func TestInclusion(t *testing.T) { // P17.9: another id, or another record of the key; the head does not move and no tile is put
	b := newBook(0, 2, recs(0, 9)...)
	for _, n := range []int{0, 2, 5, 9} {
		for i := range 5 {
			for j := range 5 {
				p := newPair(t, configOf(0, 2), 20)
				p.Merge(b.note(n))
				before := told(p.c, p.f, p.d)
				p.Lookup(keyOf(i))
				p.Give([][]byte{ok(fmt.Sprintf("%d\n%s\n%s", j, b.records[i], b.note(5)))})
				rounds(p, b, max(n, 5))
				if i == j {
					want(t, "the right id", p.c.Result().Err, api.OK)
					continue
				}
				refused(t, "another id", p.c, api.ErrInclusion)
				if told(p.c, p.f, p.d) != before {
					t.Errorf("%d at %d: something has changed", i, j)
				}
			}
		}
	}
}

// sparse: the tiles of a plan in a tree that is too great to be built, such that they bear one another out; the leaf stands at the id.
func sparse(k, h int, size int64, places []int64, id int64, leaf api.Hash) (tiles []tile.Tile, datas [][]byte, root api.Hash) {
	tiles, _ = tile.Plan(h, size, places)
	datas = make([][]byte, len(tiles))
	find := func(l int, n int64) int {
		return slices.IndexFunc(tiles, func(t tile.Tile) bool { return t.L == l && t.N == n })
	}
	for i, t := range tiles {
		for j := range t.W {
			x := tlog.LeafHash(k, fmt.Append(nil, t, j))
			datas[i] = append(datas[i], x[:]...)
		}
		if t.L == 0 && t.N == id>>h {
			copy(datas[i][32*(id&(1<<h-1)):], leaf[:])
		}
	}
	for i, t := range slices.Backward(tiles) {
		if t.W == 1<<h {
			var hashes []api.Hash
			for j := range t.W {
				hashes = append(hashes, api.Hash(datas[i][32*j:]))
			}
			stored, _ := tlog.Build(k, hashes)
			copy(datas[find(t.L+1, t.N>>h)][32*(t.N&(1<<h-1)):], stored[len(stored)-1][:])
		}
	}
	peaks, _ := tlog.Peaks(size)
	var hashes []api.Hash
	for _, p := range peaks {
		of, _ := tile.Of(h, p)
		i := find(of.L, of.N)
		x, e := tile.Inside(k, tiles[i], datas[i], p)
		if e != api.OK {
			panic(e)
		}
		hashes = append(hashes, x)
	}
	return tiles, datas, tlog.Fold(k, hashes)
}

// placesOf: number 2.
func placesOf(great, small, id int64) []int64 {
	peaks, _ := tlog.Peaks(small)
	tree, _ := proof.TreePlaces(great, small)
	record, _ := proof.RecordPlaces(great, id)
	return slices.Concat(peaks, slices.Concat(tree...), slices.Concat(record...))
}

// giveSparse: the answers to all that is wanted.
func giveSparse(p *pair, tiles []tile.Tile, datas [][]byte) {
	var answers [][]byte
	for _, w := range p.Wants() {
		x, _ := tile.ParsePath(targetOf(w)[1:])
		answers = append(answers, ok(string(datas[slices.Index(tiles, x)])))
	}
	p.Give(answers)
}

func TestGreatSizes(t *testing.T) { // P17.9, P17.10: up to 2^48 records, forwards and backwards, of each height
	t.Parallel()
	const top = 1 << 48
	path, version := keyOf(0)
	signer, _ := keysOf(origin, 1)
	for _, h := range []int{1, 2, 3, 5, 7, 8} {
		for _, x := range [][3]int64{{top, top - 1, top - 2}, {top, 1, 0}, {top - 1, top / 2, top/2 - 1}, {top - 1, top - 2, 0x5555_5555_5555}, {top/2 + 1, 3, 2}, {top - 1, 0x5555_5555_5555, 77}, {1 << 40, 1<<40 - 1, 1<<39 + 5}, {1<<33 + 12345, 1 << 32, 1<<32 - 1}, {65537, 65536, 65535}} {
			great, small, id := x[0], x[1], x[2]
			tiles, datas, root := sparse(0, h, great, placesOf(great, small, id), id, tlog.LeafHash(0, []byte(rec(0))))
			peaks, _ := tlog.Peaks(small)
			hashes, e := tile.Read(0, h, great, root, tiles, datas, peaks)
			if e != api.OK {
				t.Fatalf("height %d, %v: the tiles do not bear one another out: %d", h, x, int(e))
			}
			g := note.Head{Origin: origin, Size: great, Root: root}
			s := note.Head{Origin: origin, Size: small, Root: tlog.Fold(0, hashes)}
			for _, heads := range [][2]note.Head{{s, g}, {g, s}, {g, g}} {
				p := newPair(t, configOf(0, h), 500, headFile(signHead(heads[0], signer)))
				p.Lookup(path, version)
				p.Give([][]byte{ok(fmt.Sprintf("%d\n%s\n%s", id, rec(0), signHead(heads[1], signer)))})
				giveSparse(p, tiles, datas)
				results(t, fmt.Sprint(h, x), p.c, client.Result{Id: id, Record: rec(0)})
				if p.c.Head() != g {
					t.Errorf("height %d, %v: Head %+v", h, x, p.c.Head())
				}
				holds(t, p.conf, heads[0], p.c.Facts())
			}
			s.Root[5] ^= 1
			p := newPair(t, configOf(0, h), 500, headFile(signHead(s, signer)))
			p.Merge(signHead(g, signer))
			giveSparse(p, tiles, datas)
			if r := p.c.Result(); r.Err != api.ErrFork || proof.CheckTree(0, r.Fork.Proof, great, root, small, r.Fork.Root) != api.OK {
				t.Errorf("height %d, %v: a fork: %+v", h, x, r)
			}
		}
	}
}

func TestWeakStrengths(t *testing.T) { // P17.9: what is said of the strength is said with it, in every hash; another one fits nowhere
	for _, k := range []int{1, 2, 16, 31, 32, 0, -3} {
		b := newBook(k, 2, recs(0, 9)...)
		for n := range 10 {
			p := newPair(t, configOf(k, 2), 20)
			p.Merge(b.note(n))
			p.Lookup(keyOf(n / 2))
			round(p, b, 9)
			rounds(p, b, 9)
			results(t, "Lookup", p.c, client.Result{Id: int64(n / 2), Record: b.records[n/2]})
			holds(t, p.conf, b.head(0), p.c.Facts())
		}
		p := newPair(t, configOf(5, 2), 20)
		p.Lookup(keyOf(1))
		rounds(p, b, 9)
		refused(t, "another strength", p.c, api.ErrAuth)
	}
}

func TestCollisionsAreTaken(t *testing.T) { // P17.9: with a weak strength a record of the same leaf hash is as good as the tree's own
	leafs := map[api.Hash]string{}
	var a, b string
	for salt := range 256 {
		r := rec(1, byte(salt))
		leaf := tlog.LeafHash(1, []byte(r))
		if leafs[leaf] != "" {
			a, b = leafs[leaf], r
			break
		}
		leafs[leaf] = r
	}
	if b == "" {
		t.Fatal("no two records of one leaf hash")
	}
	log := newBook(1, 2, rec(0), a, rec(2))
	p := newPair(t, configOf(1, 2), 20)
	p.Lookup(keyOf(1))
	p.Give([][]byte{ok("1\n" + b + "\n" + log.note(3))})
	rounds(p, log, 3)
	results(t, "the other record", p.c, client.Result{Id: 1, Record: b})
}

func TestHeightsPart(t *testing.T) { // P17.9: a log of another height is refused, for it has no such tiles
	b := newBook(0, 3, recs(0, 9)...)
	p := newPair(t, configOf(0, 2), 20)
	p.Lookup(keyOf(1))
	rounds(p, b, 9)
	refused(t, "another height", p.c, api.ErrRefused)
}

func TestServedByALog(t *testing.T) { // P17.9: as chapter 15 says, append by append, and all that it has is found
	b := newBook(0, 2, recs(0, 40)...)
	s := logOf(t, b, 0)
	p := newPair(t, configOf(0, 2), 30)
	for n := 1; n <= 40; n += n/3 + 1 {
		s.Append(b.records[:n])
		for i := 0; i < n; i += n/5 + 1 {
			p.Lookup(keyOf(i))
			for range 3 {
				if len(p.Wants()) > 0 {
					serve(p, s)
				}
			}
			results(t, "Lookup", p.c, client.Result{Id: int64(i), Record: b.records[i]})
		}
		p.Lookup(keyOf(n))
		serve(p, s)
		refused(t, "Lookup of what is not there", p.c, api.ErrRefused)
	}
	holds(t, p.conf, b.head(0), p.c.Facts())
}
