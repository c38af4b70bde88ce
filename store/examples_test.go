package store_test

import (
	"bytes"
	"slices"
	"testing"

	"ledger/api"
	"ledger/disk"
	"ledger/store"
	"ledger/tile"
)

// put: an Append that is answered with these ids and does so many acts.
func put(t *testing.T, d *disk.Disk, s *store.Store, acts int, ids []int64, records ...string) {
	t.Helper()
	before := d.Acts()
	got, e := s.Append(records)
	if !slices.Equal(got, ids) || e != api.OK || d.Acts()-before != acts {
		t.Fatalf("Append = %v, %d, %d acts; want %v, %d acts", got, int(e), d.Acts()-before, ids, acts)
	}
}

func TestExamplesOfGrowth(t *testing.T) { // P13.2 to P13.6: examples 1 to 6
	c := config(1)
	d, s := begun(t, c)
	if d.Acts() != 5 || d.Pending() != 0 || names(d) != "head" || s.Size() != 0 {
		t.Errorf("Create: %d acts, %d pending, %s", d.Acts(), d.Pending(), names(d))
	}
	_, e := store.Create(d, c)
	want(t, "Create again", e, api.ErrHasLog)
	_, e = store.Open(made(t, room), c)
	want(t, "Open of an empty disk", e, api.ErrNoLog)
	put(t, d, s, 11, []int64{0}, rec(0))
	if names(d) != "head tile/1/0/000.p/1 tile/1/data/000.p/1" {
		t.Errorf("behind one record: %s", names(d))
	}
	put(t, d, s, 22, []int64{1, 2}, rec(1), rec(2))
	if names(d) != "head tile/1/0/000 tile/1/0/001.p/1 tile/1/1/000.p/1 tile/1/data/000 tile/1/data/001.p/1" {
		t.Errorf("behind three records: %s", names(d))
	}
	put(t, d, s, len(commitActs(c, recs(0, 3), recs(0, 4)))+3, []int64{1, 3, 1, 3}, rec(1), rec(3), rec(1, 9), rec(3))
	put(t, d, s, 0, []int64{0}, rec(0))
	put(t, d, s, 0, nil)
	acts, before := d.Acts(), told(d.Files())
	_, e = s.Append([]string{rec(4), "x"})
	if e != api.ErrRecord || s.Size() != 4 || s.Shut() || d.Acts() != acts {
		t.Errorf("Append with x = %d", int(e))
	}
	d.Fail(4, api.ErrIO)
	_, e = s.Append([]string{rec(5)})
	if e != api.ErrIO || !s.Shut() || s.Size() != 4 || d.Acts() != acts+4 {
		t.Errorf("Append with a fault = %d", int(e))
	}
	_, e = s.Append([]string{rec(5)})
	want(t, "Append again", e, api.ErrShut)
	u, e := store.Open(d, c)
	if e != api.OK || u.Size() != 4 || told(d.Files()) != before {
		t.Errorf("Open = %d; the disk has %s", int(e), names(d))
	}
}

func TestExamplesOfFaults(t *testing.T) { // P13.5, P13.6, P13.12: examples 7 to 9
	c := config(1)
	commit := len(commitActs(c, recs(0, 1), recs(0, 2)))
	begin := func(n int, fault, answer api.Errno) (*disk.Disk, *store.Store) {
		t.Helper()
		d, s := begun(t, c, rec(0))
		d.Fail(n, fault)
		_, e := s.Append([]string{rec(1)})
		if want(t, "Append", e, answer); s.Shut() != (e != api.OK) {
			t.Errorf("Append = %d, shut %v", int(e), s.Shut())
		}
		return d, s
	}
	reopened := func(d *disk.Disk, n int) {
		t.Helper()
		s, e := store.Open(d, c)
		if e != api.OK || s.Size() != int64(n) || told(d.Files()) != told(filesOf(c, recs(0, n))) {
			t.Errorf("Open = %d; the disk has %s", int(e), names(d))
		}
	}
	d, _ := begin(commit-1, api.ErrDead, api.ErrDead) // Rename
	reopened(d.Crash([]int{-1}), 2)
	reopened(d.Crash([]int{0}), 1)
	d, s := begin(commit, api.ErrIO, api.ErrIO) // SyncNames
	if s.Size() != 1 {
		t.Errorf("Size %d", s.Size())
	}
	reopened(d, 2)
	reopened(d.Crash(nil), 2)
	d, _ = begin(commit+1, api.ErrIO, api.OK) // the first Remove
	if _, e := d.Read("tile/1/0/000.p/1"); e != api.OK {
		t.Errorf("the file that could not be removed: %d", int(e))
	}
	reopened(d, 2)
	_, s = begin(commit+1, api.ErrDead, api.OK)
	if _, e := s.Append([]string{rec(2)}); e != api.ErrDead || !s.Shut() || s.Size() != 2 {
		t.Errorf("the next Append = %d, shut %v", int(e), s.Shut())
	}
}

func TestExamplesOfTiles(t *testing.T) { // P13.9: example 10
	c := config(1)
	d, s := begun(t, c, recs(0, 3)...)
	full, _ := d.Read("tile/1/0/000")
	join, _ := tile.Join([][]byte{[]byte(rec(0))})
	check := func(x tile.Tile, data []byte, answer api.Errno) {
		t.Helper()
		if b, e := s.Tile(x); !bytes.Equal(b, data) || e != answer {
			t.Errorf("Tile(%+v) = %x, %d; want %x, %d", x, b, int(e), data, int(answer))
		}
	}
	last, _ := d.Read("tile/1/0/001.p/1")
	check(tile.Tile{H: 1, N: 1, W: 1}, last, api.OK)
	check(tile.Tile{H: 1, N: 1, W: 2}, nil, api.ErrOutside)
	check(tile.Tile{H: 1, W: 1}, full[:32], api.OK)
	check(tile.Tile{H: 1, W: 1, Data: true}, join, api.OK)
	check(tile.Tile{H: 2, W: 1}, nil, api.ErrOutside)
	check(tile.Tile{W: 1}, nil, api.ErrTile)
	spoilt := func(what string) {
		t.Helper()
		check(tile.Tile{H: 1, W: 1}, nil, api.ErrBroken)
		check(tile.Tile{H: 1, W: 2}, nil, api.ErrBroken)
		_, e := store.Open(d, c)
		want(t, "Open with the file "+what, e, api.ErrBroken)
	}
	d.Write("tile/1/0/000", 63, []byte{full[63] ^ 1})
	spoilt("spoilt")
	d.Remove("tile/1/0/000")
	spoilt("removed")
}
