package server_test

import (
	"fmt"
	"slices"
	"strings"
	"testing"

	"ledger/api"
	"ledger/modver"
	"ledger/note"
	"ledger/proof"
	"ledger/server"
	"ledger/store"
	"ledger/tile"
	"ledger/tlog"
)

// askAll: every kind of request, by each of the calls.
func askAll(s *server.Server) {
	for _, target := range slices.Concat(someTargets(), namesOf(1), namesOf(2)) {
		for _, method := range []string{"GET", "PUT", "DELETE"} {
			s.Answer(method, target)
			s.Serve([]byte(method + " " + target + " HTTP/1.0\n\n"))
		}
	}
	s.Serve([]byte(strings.Join(someRequests(), "")))
	for _, r := range someRequests() {
		s.Serve([]byte(r))
	}
	for _, key := range []string{"", "a.com@v1.0.0", keyOf(1), keyOf(99), "A@b"} {
		s.Lookup(key)
	}
}

func TestRequestsChangeNothing(t *testing.T) { // P15.7: the log, the disk, its pending acts and its faults
	for _, kind := range []string{"whole", "pending", "shut", "spoilt", "dead"} {
		for _, h := range []int{1, 2} {
			c := config(h)
			records := slices.Concat(three(), recs(0, 4))
			d, s := begun(t, c, records...)
			switch kind {
			case "pending":
				d.Create("other")
				d.Write("other", 0, []byte("abc"))
			case "shut":
				d.Fail(5, api.ErrIO)
				s.Append(recs(7, 9))
			case "spoilt":
				d.Remove(d.List("tile/")[0])
			case "dead":
				d.Fail(1, api.ErrDead)
				d.Create("other")
			}
			d.Fail(1, api.ErrFull)
			before := told(d)
			askAll(s)
			if told(d) != before {
				t.Errorf("%s, height %d: the requests have changed the disk", kind, h)
			}
			isLog(t, kind, s, c, records)
			if e := d.Create("next"); kind != "dead" && e != api.ErrFull {
				t.Errorf("%s: the fault that was named has been used up: %d", kind, int(e))
			}
			after := d.Crash([]int{-1, -1})
			if _, e := server.Open(after, c); (e == api.OK) != (kind != "spoilt") {
				t.Errorf("%s: Open behind it = %d", kind, int(e))
			}
		}
	}
}

func TestRequestsBetweenAppends(t *testing.T) { // P15.7: a log that was asked grows as one that was not
	c := config(1)
	a, s := begun(t, c)
	b, quiet := begun(t, c)
	for n := range 9 {
		askAll(s)
		ids, e := s.Append([]string{rec(n), rec(n / 2)})
		want, f := quiet.Append([]string{rec(n), rec(n / 2)})
		if e != f || !slices.Equal(ids, want) || told(a) != told(b) {
			t.Fatalf("append %d: %v, %d; want %v, %d", n, ids, int(e), want, int(f))
		}
	}
}

// fetch: a tile, as somebody who trusts nothing would ask for it.
func fetch(t *testing.T, s *server.Server, x tile.Tile) []byte {
	t.Helper()
	path, e := tile.Path(x)
	if e != api.OK {
		t.Fatal(e)
	}
	status, b := s.Answer("GET", "/"+path)
	if status != 200 {
		t.Fatalf("%s: %d", path, status)
	}
	return b
}

// readPlaces: the stored hashes of places, read of tiles that were asked for and checked against the head.
func readPlaces(t *testing.T, s *server.Server, c store.Config, h note.Head, places []int64) []api.Hash {
	t.Helper()
	tiles, e := tile.Plan(c.Height, h.Size, places)
	if e != api.OK {
		t.Fatal(e)
	}
	var datas [][]byte
	for _, x := range tiles {
		datas = append(datas, fetch(t, s, x))
	}
	hashes, e := tile.Read(c.Strength, c.Height, h.Size, h.Root, tiles, datas, places)
	if e != api.OK {
		t.Fatalf("the tiles don't lead to the root: %d", int(e))
	}
	return hashes
}

// proofOf: a record proof, each of its hashes folded of those that it is made of.
func proofOf(t *testing.T, s *server.Server, c store.Config, h note.Head, id int64) []api.Hash {
	t.Helper()
	parts, e := proof.RecordPlaces(h.Size, id)
	if e != api.OK {
		t.Fatal(e)
	}
	var out []api.Hash
	for _, places := range parts {
		out = append(out, tlog.Fold(c.Strength, readPlaces(t, s, c, h, places)))
	}
	return out
}

func TestWhatAClientCanCheck(t *testing.T) { // P15.8: each lookup leads to a record proof of its head's tree, made of tiles
	signer, verifier, _ := note.Generate("log.example", note.AlgEd25519, [32]byte{5})
	for _, h := range []int{1, 2, 3, 8} {
		c := store.Config{Origin: "log.example", Signer: signer, Height: h}
		records := slices.Concat(three(), recs(0, 30))
		_, s := begun(t, c, records...)
		for i, r := range records {
			path, version, _, _, _ := modver.ParseRecord(r)
			path, _ = modver.EscapePath(path)
			version, _ = modver.EscapeVersion(version)
			status, body := s.Answer("GET", "/lookup/"+path+"@"+version)
			id, record, signed, e := server.ParseLookup(body)
			if status != 200 || id != int64(i) || record != r || e != api.OK {
				t.Fatalf("record %d: %d, %d, %q, %d", i, status, id, record, int(e))
			}
			n, e := note.Open(signed, []string{verifier})
			head, f := note.ParseHead(n.Text)
			if e != api.OK || f != api.OK || head.Size != int64(len(records)) || head.Origin != "log.example" {
				t.Fatalf("the head of a lookup: %d, %d, %+v", int(e), int(f), head)
			}
			if e := proof.CheckRecord(0, proofOf(t, s, c, head, id), head.Size, head.Root, id, tlog.LeafHash(0, []byte(record))); e != api.OK {
				t.Errorf("record %d is not in the head's tree: %d", i, int(e))
			}
		}
	}
}

func TestEveryTileOfALog(t *testing.T) { // P15.8: the tree's hashes, or the records, of its range; full tiles and the last ones, at each width
	for _, x := range []struct{ height, size int }{{1, 0}, {1, 1}, {1, 2}, {1, 17}, {2, 64}, {3, 65}, {8, 256}, {8, 257}, {8, 1100}} {
		c := config(x.height)
		records := recs(0, x.size)
		_, s := begun(t, c, records...)
		m := modelOf(c, records)
		tiles, _ := tile.All(x.height, int64(x.size))
		for _, full := range tiles {
			for _, w := range []int{1, 2, full.W / 2, full.W - 1, full.W, full.W + 1} {
				for _, data := range []bool{false, true} {
					path, e := tile.Path(tile.Tile{H: full.H, L: full.L, N: full.N, W: w, Data: data})
					if e == api.OK {
						asTold(t, s, m, "GET", "/"+path)
					}
				}
			}
			if b := fetch(t, s, full); len(b) != 32*full.W {
				t.Errorf("%+v: %d bytes", full, len(b))
			}
			if full.L == 0 {
				full.Data = true
				cut, e := tile.Cut(fetch(t, s, full), full.W)
				if e != api.OK {
					t.Fatal(e)
				}
				for i, r := range cut {
					if string(r) != records[int(full.N)<<full.H+i] {
						t.Errorf("%+v: record %d is %q", full, i, r)
					}
				}
			}
		}
		next, _ := tile.Path(tile.Tile{H: x.height, N: int64(x.size >> x.height), W: x.size&(1<<x.height-1) + 1})
		refuses(t, s, 404, "GET", "/"+next)
	}
}

func TestWholeAndIllFormedIsRefused(t *testing.T) { // P15.8: with a status from 400 on; one that is cut gets no answer
	c := config(1)
	_, s := begun(t, c, three()...)
	for _, r := range []string{
		"x||", "GET||", "GET /latest||", "GET  /latest HTTP/1.1|Host: a||", "/latest HTTP/1.1|Host: a||", "GET /latest HTTP/1.1 |Host: a||", "GET /latest HTTP/1.1|Host||", "GET /latest http/1.1|Host: a||", "GET latest HTTP/1.1|Host: a||", "GET /latest# HTTP/1.1|Host: a||",
		"GET /lookup/a.com HTTP/1.1|Host: a||", "GET /lookup/a.com@v1 HTTP/1.1|Host: a||", "GET /lookup/c.com@v1.0.0 HTTP/1.1|Host: a||", "GET /tile/1/0/00 HTTP/1.1|Host: a||", "GET /tile/1/0/001 HTTP/1.1|Host: a||", "GET /tile/1/data/002.p/1 HTTP/1.1|Host: a||", "GET /tile/3/0/000.p/1 HTTP/1.1|Host: a||",
	} {
		got := string(s.Serve([]byte(wire(r))))
		status := 0
		fmt.Sscanf(got, "HTTP/1.1 %d ", &status)
		if status < 400 || strings.Count(got, "HTTP/1.1 ") != 1 {
			t.Errorf("Serve(%q) = %q", r, got)
		}
	}
}

func TestTwoServers(t *testing.T) { // P15.9: over disks of their own, of one config
	c := config(1)
	d, a := begun(t, c)
	_, b := begun(t, c)
	for n := range 6 {
		a.Append([]string{rec(n)})
		askAll(b)
		b.Append([]string{rec(n, 1), rec(100 + n)})
	}
	d.Fail(3, api.ErrIO)
	if _, e := b.Append([]string{rec(50)}); e != api.OK {
		t.Errorf("a fault of another disk: %d", int(e))
	}
	if _, e := a.Append([]string{rec(60)}); e != api.ErrIO {
		t.Errorf("a fault of its own disk: %d", int(e))
	}
	d.Crash(nil)
	isLog(t, "the first", a, c, recs(0, 6))
	if status, _ := b.Answer("GET", "/tile/1/0/000"); b.Size() != 13 || status != 200 {
		t.Errorf("the other has %d records, and tells a tile with %d", b.Size(), status)
	}
	if status, _ := a.Answer("GET", "/tile/1/0/000"); status != 500 {
		t.Errorf("the first tells a tile with %d", status)
	}
}

func TestTheDiskIsKept(t *testing.T) { // P15.9: the server goes on using the one that it was given
	c := config(1)
	d := made(t)
	s, _ := server.Create(d, c)
	s.Append(recs(0, 2))
	for _, name := range []string{"tile/1/0/000", "tile/1/data/000"} {
		b, e := d.Read(name)
		if e != api.OK {
			t.Fatalf("%s: %d", name, int(e))
		}
		answers(t, s, "GET", "/"+name, 200, string(b))
		d.Remove(name)
		refuses(t, s, 500, "GET", "/"+name)
		d.Create(name)
		d.Write(name, 0, b)
		answers(t, s, "GET", "/"+name, 200, string(b))
	}
	if o, e := server.Open(loaded(t, d.Files()), c); e != api.OK || string(o.Head()) != string(s.Head()) {
		t.Errorf("Open of its files: %d", int(e))
	}
}
