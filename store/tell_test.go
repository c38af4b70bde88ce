package store_test

import (
	"bytes"
	"fmt"
	"math"
	"testing"

	"ledger/api"
	"ledger/store"
	"ledger/tile"
	"ledger/tlog"
)

func TestFind(t *testing.T) { // P13.8: keys that the log has, byte by byte
	_, s := begun(t, config(2), recs(0, 12)...)
	for n := range 12 {
		if id, ok := s.Find(keyOf(n)); id != int64(n) || !ok {
			t.Errorf("Find(%s) = %d, %v", keyOf(n), id, ok)
		}
	}
	for _, key := range []string{"", "x", "@", keyOf(12), keyOf(1) + " ", " " + keyOf(1), "M" + keyOf(1)[1:], "m.example/x1", "m.example/x1@", "m.example/x1@v1.0.1", "m.example/x1@v1.0.0/go.mod", "m.example/x1 v1.0.0", rec(1), "\xff\x00", string(make([]byte, 1<<20))} {
		if id, ok := s.Find(key); id != 0 || ok {
			t.Errorf("Find(%.40q) = %d, %v", key, id, ok)
		}
	}
}

func TestRecord(t *testing.T) { // P13.8: ids from 0 to Size - 1
	_, s := begun(t, config(2), recs(0, 3)...)
	for _, id := range []int64{-1, 3, 4, math.MinInt64, math.MaxInt64} {
		if r, e := s.Record(id); r != "" || e != api.ErrArg {
			t.Errorf("Record(%d) = %q, %d", id, r, int(e))
		}
	}
	_, empty := begun(t, config(2))
	_, e := empty.Record(0)
	want(t, "Record of no records", e, api.ErrArg)
}

func TestHashes(t *testing.T) { // P13.10: in the list's order, a place twice too; ErrLong ahead of ErrOutside
	for _, k := range []int{0, 2} {
		c := config(2)
		c.Strength = k
		_, s := begun(t, c, recs(0, 7)...)
		stored := storedOf(k, recs(0, 7))
		got, e := s.Hashes([]int64{10, 0, 6, 6, 0})
		if fmt.Sprint(got) != fmt.Sprint([]api.Hash{stored[10], stored[0], stored[6], stored[6], stored[0]}) || e != api.OK {
			t.Errorf("Hashes = %x, %d", got, int(e))
		}
		for _, n := range []int{0, 1024} {
			if got, e := s.Hashes(make([]int64, n)); len(got) != n || e != api.OK {
				t.Errorf("Hashes of %d places = %d of them, %d", n, len(got), int(e))
			}
		}
		for _, x := range []struct {
			places []int64
			e      api.Errno
		}{
			{[]int64{11}, api.ErrOutside}, {[]int64{-1}, api.ErrOutside}, {[]int64{0, 1, 11}, api.ErrOutside}, {[]int64{math.MaxInt64}, api.ErrOutside}, {[]int64{math.MinInt64, 0}, api.ErrOutside},
			{make([]int64, 1025), api.ErrLong}, {append(make([]int64, 1024), -1), api.ErrLong}, {append(make([]int64, 1023), -1), api.ErrOutside}, {make([]int64, 70000), api.ErrLong},
		} {
			if got, e := s.Hashes(x.places); got != nil || e != x.e {
				t.Errorf("Hashes of %d places = %x, %d; want %d", len(x.places), got, int(e), int(x.e))
			}
		}
	}
	_, empty := begun(t, config(2))
	_, e := empty.Hashes([]int64{0})
	want(t, "Hashes of no records", e, api.ErrOutside)
	if got, e := empty.Hashes(nil); len(got) != 0 || e != api.OK {
		t.Errorf("Hashes of no places = %x, %d", got, int(e))
	}
}

// tileAsked: what the chapter says of a tile whose numbers may be, of a log whose files are all right.
func tileAsked(c store.Config, records []string, t tile.Tile) ([]byte, api.Errno) {
	w, _ := tile.Width(t.H, t.L, t.N, int64(len(records)))
	if t.H != c.Height || t.W > w {
		return nil, api.ErrOutside
	}
	if t.Data {
		return dataFile(records, t).Data, api.OK
	}
	data, e := tile.FromTree(storedOf(c.Strength, records), t)
	return data, e
}

func TestTile(t *testing.T) { // P13.9: every tile of small logs, of every width, and those around them
	for _, h := range []int{1, 2, 3, 8} {
		for _, n := range []int{0, 1, 2, 3, 5, 8, 11} {
			c := config(h)
			records := recs(0, n)
			d, s := begun(t, c, records...)
			acts := d.Acts()
			for i := range 4 * 7 * 11 * 2 {
				x := tile.Tile{H: h - 1 + i%3, L: i / 3 % 4, N: int64(i / 12 % 7), W: i / 84 % 11, Data: i >= 308}
				data, e := []byte(nil), tile.Check(x)
				if e == api.OK {
					data, e = tileAsked(c, records, x)
				}
				got, answer := s.Tile(x)
				if !bytes.Equal(got, data) || answer != e {
					t.Fatalf("height %d, %d records: Tile(%+v) = %x, %d; want %x, %d", h, n, x, got, int(answer), data, int(e))
				}
			}
			if d.Acts() != acts {
				t.Errorf("Tile has done %d acts", d.Acts()-acts)
			}
		}
	}
}

func TestTileRefuses(t *testing.T) { // P13.9, P0.1: ErrTile, ErrOutside, ErrDead, ErrBroken, in this order; wild numbers
	d, s := begun(t, config(1), recs(0, 3)...)
	check := func(what string, fine api.Errno) {
		t.Helper()
		for _, x := range []struct {
			t tile.Tile
			e api.Errno
		}{
			{tile.Tile{}, api.ErrTile}, {tile.Tile{H: 0, W: 1}, api.ErrTile}, {tile.Tile{H: 9, W: 1}, api.ErrTile}, {tile.Tile{H: 1, W: 0}, api.ErrTile}, {tile.Tile{H: 1, W: 3}, api.ErrTile}, {tile.Tile{H: 1, W: 1, L: -1}, api.ErrTile}, {tile.Tile{H: 1, W: 1, N: -1}, api.ErrTile}, {tile.Tile{H: 1, W: 1, L: 1, Data: true}, api.ErrTile}, {tile.Tile{H: 1, W: 1, L: 49}, api.ErrTile},
			{tile.Tile{H: math.MaxInt, L: math.MaxInt, N: math.MaxInt64, W: math.MaxInt}, api.ErrTile}, {tile.Tile{H: math.MinInt, L: math.MinInt, N: math.MinInt64, W: math.MinInt, Data: true}, api.ErrTile}, {tile.Tile{H: 1, W: 1, N: math.MaxInt64}, api.ErrTile}, {tile.Tile{H: 1, W: 1, L: math.MaxInt}, api.ErrTile},
			{tile.Tile{H: 2, W: 1}, api.ErrOutside}, {tile.Tile{H: 2, W: 1, Data: true}, api.ErrOutside}, {tile.Tile{H: 8, W: 256, N: 1<<40 - 1}, api.ErrOutside}, {tile.Tile{H: 1, N: 1, W: 2}, api.ErrOutside}, {tile.Tile{H: 1, N: 1, W: 2, Data: true}, api.ErrOutside}, {tile.Tile{H: 1, N: 2, W: 1}, api.ErrOutside}, {tile.Tile{H: 1, L: 2, W: 1}, api.ErrOutside}, {tile.Tile{H: 1, L: 1, W: 2}, api.ErrOutside}, {tile.Tile{H: 1, L: 48, W: 1}, api.ErrOutside}, {tile.Tile{H: 1, N: 1<<47 - 1, W: 2}, api.ErrOutside},
			{tile.Tile{H: 1, W: 1}, fine}, {tile.Tile{H: 1, W: 2}, fine}, {tile.Tile{H: 1, N: 1, W: 1}, fine}, {tile.Tile{H: 1, W: 1, Data: true}, fine}, {tile.Tile{H: 1, L: 1, W: 1}, fine},
		} {
			if b, e := s.Tile(x.t); e != x.e || (b == nil) != (e != api.OK) {
				t.Errorf("%s: Tile(%+v) = %x, %d; want %d", what, x.t, b, int(e), int(x.e))
			}
		}
	}
	check("as it is", api.OK)
	for _, name := range d.List("tile/") {
		d.Remove(name)
	}
	check("without files", api.ErrBroken)
	d.Crash(nil)
	check("on a dead disk", api.ErrDead)
}

func TestTileOfSpoiltFiles(t *testing.T) { // P13.9: whichever byte it is, at every width; other tiles go on
	c := config(2)
	records := recs(0, 7)
	files := filesOf(c, records)
	for _, f := range files {
		x, e := tile.ParsePath(f.Name)
		if e != api.OK {
			continue
		}
		for at := 0; at <= len(f.Data); at += 5 {
			d := loaded(t, files)
			s, _ := store.Open(d, c)
			turned := byte(0) // one byte behind the end
			if at < len(f.Data) {
				turned = f.Data[at] ^ 0x80
			}
			d.Write(f.Name, at, []byte{turned})
			for _, g := range files {
				y, e := tile.ParsePath(g.Name)
				for ; e == api.OK && y.W > 0; y.W-- {
					data, answer := tileAsked(c, records, y)
					if y.L == x.L && y.N == x.N && y.Data == x.Data {
						data, answer = nil, api.ErrBroken
					}
					if b, e := s.Tile(y); !bytes.Equal(b, data) || e != answer {
						t.Errorf("byte %d of %s turned: Tile(%+v) = %x, %d", at, f.Name, y, b, int(e))
					}
				}
			}
			d.Create(f.Name)
			if _, e := s.Tile(x); e != api.ErrBroken {
				t.Errorf("%s without bytes: %d", f.Name, int(e))
			}
			d.Write(f.Name, 0, f.Data)
			if b, e := s.Tile(x); !bytes.Equal(b, f.Data) || e != api.OK {
				t.Errorf("%s mended: %d", f.Name, int(e))
			}
		}
	}
}

func TestOnlyTheFullFileCounts(t *testing.T) { // P13.9: a narrower tile is read from the file of the full width; a narrower file plays no part
	c := config(2)
	d, s := begun(t, c, recs(0, 3)...)
	d.Create("tile/2/0/000.p/2")
	if b, e := s.Tile(tile.Tile{H: 2, W: 2}); len(b) != 64 || e != api.OK {
		t.Errorf("Tile = %x, %d", b, int(e))
	}
	d.Rename("tile/2/0/000.p/3", "x")
	b, e := s.Tile(tile.Tile{H: 2, W: 2})
	if b != nil || e != api.ErrBroken {
		t.Errorf("Tile without its full file = %x, %d", b, int(e))
	}
}

func TestRoots(t *testing.T) { // P13.7: behind each append, at weak strengths too
	for _, k := range []int{0, 1, 31, 40} {
		c := config(1)
		c.Strength = k
		_, s := begun(t, c)
		if s.Root() != tlog.EmptyHash(k) || s.Size() != 0 || s.Shut() {
			t.Errorf("strength %d: Root %x", k, s.Root())
		}
		for n := range 18 {
			s.Append([]string{rec(n)})
			isLog(t, "grown", s, c, recs(0, n+1))
		}
	}
}
