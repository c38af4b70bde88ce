package store_test

import (
	"fmt"
	"slices"
	"strings"
	"testing"

	"ledger/api"
	"ledger/disk"
	"ledger/note"
	"ledger/store"
	"ledger/tile"
	"ledger/tlog"
)

func TestIds(t *testing.T) { // P13.4: known keys, keys that stand twice, whatever the sums
	p := newPair(t, config(1), room)
	p.create()
	p.append(rec(0))
	p.append(rec(1), rec(2))
	p.append(rec(1), rec(3), rec(1, 9), rec(3, 7))
	p.append(rec(4, 1), rec(4, 2), rec(5), rec(4), rec(0, 5), rec(6))
	if id, ok := p.s.Find(keyOf(4)); id != 4 || !ok || p.s.Size() != 7 {
		t.Errorf("Find = %d, %v, Size %d", id, ok, p.s.Size())
	}
	if r, _ := p.s.Record(4); r != rec(4, 1) {
		t.Errorf("of two records of one key %q was put in", r)
	}
	other, _ := modverRecord("m.example/x0", "v1.0.1")
	p.append(other) // another version is another key
	for h := 2; h <= 8; h++ {
		p := newPair(t, config(h), room)
		p.create()
		for n := range 6 {
			p.append(recs(n, 4*n+1)...)
		}
	}
}

func TestNothingToPutIn(t *testing.T) { // P13.4: no act, not even on a dead disk; ErrShut comes ahead of it
	d, s := begun(t, config(1), recs(0, 3)...)
	acts := d.Acts()
	check := func(what string) {
		t.Helper()
		for _, list := range [][]string{nil, {}, {rec(0)}, {rec(2), rec(0, 4), rec(2)}} {
			ids, e := s.Append(list)
			if e != api.OK || len(ids) != len(list) || d.Acts() != acts || s.Shut() {
				t.Errorf("%s: Append of %d known records = %v, %d, %d acts, shut %v", what, len(list), ids, int(e), d.Acts()-acts, s.Shut())
			}
		}
	}
	check("on the disk")
	d.Fail(1, api.ErrIO)
	check("with a fault to come")
	d.Crash(nil)
	check("on a dead disk")
	if _, e := s.Append([]string{rec(9)}); e != api.ErrDead || !s.Shut() {
		t.Errorf("Append on a dead disk = %d, shut %v", int(e), s.Shut())
	}
	for _, list := range [][]string{nil, {rec(0)}, {"x"}, make([]string, 1025)} {
		if ids, e := s.Append(list); ids != nil || e != api.ErrShut {
			t.Errorf("Append on a shut store = %v, %d", ids, int(e))
		}
	}
	isLog(t, "shut", s, config(1), recs(0, 3))
}

func TestAppendRefuses(t *testing.T) { // P13.4, P0.1: ErrLong, then the first record's error; no act, not shut
	d, s := begun(t, config(1), recs(0, 3)...)
	acts, files := d.Acts(), told(d.Files())
	path, version, sum := strings.ReplaceAll(rec(9), "m.example", "M"), strings.ReplaceAll(rec(9), "v1.0.0", "v1"), strings.ReplaceAll(rec(9), "h1:", "h2:")
	many := func(n int, last string) []string { return append(slices.Repeat([]string{rec(0)}, n-1), last) }
	for _, x := range []struct {
		list []string
		e    api.Errno
	}{
		{[]string{"x"}, api.ErrRecord}, {[]string{""}, api.ErrRecord}, {[]string{rec(4), "x"}, api.ErrRecord}, {[]string{strings.Repeat("x", 1<<20)}, api.ErrRecord},
		{[]string{rec(4), path}, api.ErrModPath}, {[]string{version}, api.ErrVersion}, {[]string{rec(0), rec(1), sum, rec(4)}, api.ErrSum},
		{[]string{sum, path, "x"}, api.ErrSum}, {[]string{"x", sum}, api.ErrRecord}, {[]string{version, sum}, api.ErrVersion}, {[]string{rec(8) + rec(9)}, api.ErrRecord},
		{make([]string, 1025), api.ErrLong}, {many(1025, rec(0)), api.ErrLong}, {many(1025, "x"), api.ErrLong}, {recs(10, 1035), api.ErrLong}, {many(1024, "x"), api.ErrRecord},
	} {
		if ids, e := s.Append(x.list); ids != nil || e != x.e {
			t.Errorf("Append of %d, %.40q = %v, %d; want %d", len(x.list), x.list[0], ids, int(e), int(x.e))
		}
	}
	if d.Acts() != acts || told(d.Files()) != files || s.Shut() {
		t.Errorf("%d acts, shut %v", d.Acts()-acts, s.Shut())
	}
	if _, ok := s.Find(keyOf(4)); ok {
		t.Error("a record of a refused list was put in")
	}
	if ids, e := s.Append(many(1024, rec(3))); e != api.OK || len(ids) != 1024 || ids[1022] != 0 || ids[1023] != 3 {
		t.Errorf("Append of 1024 records = %d of them, %d", len(ids), int(e))
	}
	isLog(t, "behind all", s, config(1), recs(0, 4))
}

// growths: from how many records to how many.
func growths() [][2]int {
	return [][2]int{{0, 1}, {0, 3}, {1, 2}, {1, 3}, {2, 3}, {3, 8}, {4, 5}, {7, 8}, {6, 17}, {9, 10}}
}

func TestCommitDoesTheseActs(t *testing.T) { // P13.5, P13.6: each act in its turn, whichever fails and however; the log as it was, shut, or OK
	t.Parallel()
	for _, h := range []int{1, 2, 8} {
		for _, g := range growths() {
			c := config(h)
			old, next := recs(0, g[0]), recs(0, g[1])
			commit, tidy := len(commitActs(c, old, next)), len(tidyActs(c, old, next))
			for _, fault := range []api.Errno{api.ErrIO, api.ErrFull, api.ErrDead} {
				for n := 0; n <= commit+tidy+1; n++ {
					p := newPair(t, c, room, filesOf(c, old)...)
					p.logs = append(p.logs, old)
					p.open()
					p.fail(n, fault)
					e := p.append(next[g[0]:]...)
					if failed := n >= 1 && n <= commit; failed && e != fault || !failed && e != api.OK {
						t.Fatalf("height %d, %v: Append with act %d of %d failing = %d", h, g, n, commit, int(e))
					}
					if n == 0 && p.d.Acts() != 1+commit+tidy {
						t.Fatalf("height %d, %v: %d acts", h, g, p.d.Acts())
					}
					p.append(rec(99)) // the store is shut, the disk is dead, or the log goes on
					p.agreeBehindCrashes("Append")
				}
			}
		}
	}
}

func TestShutStoreGoesOnTelling(t *testing.T) { // P13.5: tiles too, from the disk as it is
	c := config(1)
	for n := 1; n <= 25; n++ {
		d, s := begun(t, c, recs(0, 5)...)
		tiles := tellAll(t, s, 1, 5)
		d.Fail(n, api.ErrIO)
		_, e := s.Append([]string{rec(5), rec(6)})
		if s.Shut() != (e != api.OK) {
			t.Fatalf("act %d: Append = %d, shut %v", n, int(e), s.Shut())
		}
		if e == api.OK {
			continue
		}
		isLog(t, "shut", s, c, recs(0, 5))
		if tellAll(t, s, 1, 5) != tiles {
			t.Errorf("act %d: a shut store tells other tiles", n)
		}
		if b, e := s.Tile(tile.Tile{H: 1, N: 2, W: 2}); b != nil || e != api.ErrOutside {
			t.Errorf("act %d: the tile that was to come: %x, %d", n, b, int(e))
		}
		if _, ok := s.Find(keyOf(5)); ok {
			t.Errorf("act %d: the record that was to come is found", n)
		}
	}
}

// tellAll: all tiles that a log has, of all widths, as a text.
func tellAll(t *testing.T, s *store.Store, h, size int) string {
	t.Helper()
	var out strings.Builder
	for _, x := range allTiles(h, size) {
		for _, data := range []bool{false, true} {
			x.Data = data
			for x.W = range x.W + 1 {
				if x.W == 0 || data && x.L > 0 {
					continue
				}
				b, e := s.Tile(x)
				fmt.Fprintf(&out, "%+v %x %d\n", x, b, int(e))
			}
		}
	}
	return out.String()
}

func TestTidyingIsTriedForAll(t *testing.T) { // P13.6: one that fails, or isn't there, does not keep the others
	c := config(1)
	d, s := begun(t, c, recs(0, 7)...)
	d.Remove("tile/1/1/001.p/1")
	d.Fail(len(commitActs(c, recs(0, 7), recs(0, 8)))+1, api.ErrIO)
	if ids, e := s.Append([]string{rec(7)}); !slices.Equal(ids, []int64{7}) || e != api.OK || s.Shut() {
		t.Fatalf("Append = %v, %d, shut %v", ids, int(e), s.Shut())
	}
	files := filesOf(c, recs(0, 8))
	left := with(files, "tile/1/0/003.p/1", dataOf(filesOf(c, recs(0, 7)), "tile/1/0/003.p/1"))
	slices.SortFunc(left, byName)
	if got := told(d.Files()); got != told(left) {
		t.Errorf("the disk has\n%s; want\n%s", got, told(left))
	}
	if _, e := store.Open(d, c); e != api.OK || told(d.Files()) != told(files) {
		t.Errorf("Open = %d, and leaves\n%s", int(e), told(d.Files()))
	}
}

func TestTidyingGoesByTheNamesBytes(t *testing.T) { // P13.6: level 10 comes ahead of level 2; a crash shows what was removed first
	c := config(1)
	p := newPair(t, c, room, filesOf(c, recs(0, 2047))...)
	p.logs = [][]string{recs(0, 2047)}
	p.open()
	p.append(rec(2047))
	if p.d.Pending() != 12 {
		t.Errorf("%d files were removed", p.d.Pending())
	}
	p.agreeBehindCrashes("tidying")
}

func TestFilesInTheWay(t *testing.T) { // P13.5: what somebody has laid where new files are to go is not left in them
	c := config(1)
	p := newPair(t, c, room)
	p.create()
	for _, d := range []*disk.Disk{p.d, p.twin} {
		for _, f := range append(filesOf(c, recs(0, 3)), disk.File{Name: "head.new"}) {
			if f.Name != "head" {
				d.Create(f.Name)
				d.Write(f.Name, 0, make([]byte, 2000))
			}
		}
	}
	p.append(recs(0, 3)...)
	want(t, "Open", p.open(), api.OK)
	p.agreeBehindCrashes("Append over files")
}

func TestNoRoom(t *testing.T) { // P13.5, P13.6: the disk's own ErrFull, in every act that needs room; Open needs none
	c := config(1)
	old, next := filesOf(c, recs(0, 5)), filesOf(c, recs(0, 7))
	used := func(files []disk.File) (n int64) {
		for _, f := range files {
			n += int64(len(f.Data))
		}
		return n
	}
	full := 0
	for more := int64(0); more <= used(next); more += 7 {
		p := newPair(t, c, used(old)+more, old...)
		p.logs = append(p.logs, recs(0, 5))
		p.open()
		e := p.append(rec(5), rec(6))
		if e == api.ErrFull {
			full++
			want(t, "Open on a disk without room", p.open(), api.OK)
			if p.s.Size() != 5 {
				t.Errorf("Size %d", p.s.Size())
			}
		}
	}
	if full < 50 {
		t.Errorf("ErrFull was met %d times", full)
	}
}

func TestMemoryAlone(t *testing.T) { // P13.4, P13.5: but for Open and Tile nothing is read: somebody takes all files away, or writes over them
	c := config(1)
	d, s := begun(t, c, recs(0, 5)...)
	for i, name := range d.List("") {
		if i%2 == 0 {
			d.Remove(name)
		} else {
			d.Write(name, 0, []byte("spoilt"))
		}
	}
	isLog(t, "without files", s, c, recs(0, 5))
	if ids, e := s.Append([]string{rec(5), rec(0)}); !slices.Equal(ids, []int64{5, 0}) || e != api.OK {
		t.Errorf("Append = %v, %d", ids, int(e))
	}
	isLog(t, "and grown", s, c, recs(0, 6))
}

func TestSignedByEd25519(t *testing.T) { // P13.5, P13.7: the signed head, as note.Open takes it
	c := config(3)
	signer, verifier, _ := note.Generate("other.name", note.AlgEd25519, [32]byte{5})
	c.Signer = signer
	_, s := begun(t, c, recs(0, 11)...)
	n, e := note.Open(s.Head(), []string{verifier})
	h, f := note.ParseHead(n.Text)
	if e != api.OK || f != api.OK || h != (note.Head{Origin: "log.example", Size: 11, Root: s.Root()}) || len(n.Unverified) != 0 {
		t.Errorf("Head = %+v, %d; %+v, %d", n, int(e), h, int(f))
	}
}

// bigFiles: of a log of n records and height 8, whatever n is: the levels are reckoned one above the other.
func bigFiles(c store.Config, records []string) []disk.File {
	var leaves []api.Hash
	for _, r := range records {
		leaves = append(leaves, tlog.LeafHash(c.Strength, []byte(r)))
	}
	var peaks []api.Hash
	var files []disk.File
	for level, nodes := 0, leaves; len(nodes) > 0; level++ {
		if level%8 == 0 {
			for i := 0; i < len(nodes); i += 256 {
				t := tile.Tile{H: 8, L: level / 8, N: int64(i / 256), W: min(256, len(nodes)-i)}
				var data []byte
				for _, h := range nodes[i : i+t.W] {
					data = append(data, h[:]...)
				}
				files = append(files, disk.File{Name: pathOf(t), Data: data})
				if level == 0 {
					files = append(files, dataFile(records, t))
				}
			}
		}
		if len(nodes)%2 == 1 {
			peaks = append([]api.Hash{nodes[len(nodes)-1]}, peaks...)
		}
		var above []api.Hash
		for i := 0; i+1 < len(nodes); i += 2 {
			above = append(above, tlog.NodeHash(c.Strength, nodes[i], nodes[i+1]))
		}
		nodes = above
	}
	return append(files, disk.File{Name: "head", Data: headOf(c, int64(len(records)), tlog.Fold(c.Strength, peaks))})
}

func TestGreatestLog(t *testing.T) { // P13.3, P13.4: 65536 records, and no more
	t.Parallel()
	c := config(8)
	all := recs(0, 65537)
	d := loaded(t, bigFiles(c, all[:65535]))
	s, e := store.Open(d, c)
	if e != api.OK {
		t.Fatalf("Open of 65535 records = %d", int(e))
	}
	acts := d.Acts()
	refused := func(what string, e api.Errno, list ...string) {
		t.Helper()
		size := s.Size()
		if ids, got := s.Append(list); ids != nil || got != e || d.Acts() != acts || s.Shut() || s.Size() != size {
			t.Errorf("%s: %v, %d, %d acts, shut %v", what, ids, int(got), d.Acts()-acts, s.Shut())
		}
	}
	refused("two above 65535", api.ErrRange, all[65535], all[0], all[65536])
	refused("and no record", api.ErrRecord, all[65535], all[65536], "x")
	if ids, e := s.Append([]string{all[7], all[65535], rec(65535, 1), all[65534]}); !slices.Equal(ids, []int64{7, 65535, 65535, 65534}) || e != api.OK {
		t.Fatalf("Append of the last one = %v, %d", ids, int(e))
	}
	acts = d.Acts()
	refused("one above 65536", api.ErrRange, all[65536])
	refused("above MaxBatch", api.ErrLong, all[:1025]...)
	if ids, e := s.Append(all[:1024]); len(ids) != 1024 || e != api.OK || d.Acts() != acts {
		t.Errorf("Append of known ones = %d", int(e))
	}
	whole := bigFiles(c, all[:65536])
	slices.SortFunc(whole, byName)
	if told(d.Files()) != told(whole) {
		t.Error("the files of 65536 records are others")
	}
	if s, e := store.Open(d, c); e != api.OK || s.Size() != 65536 {
		t.Errorf("Open of 65536 records = %d", int(e))
	}
	broken(t, "65537 records", c, bigFiles(c, all))
}
