package server_test

import (
	"fmt"
	"math/rand"
	"slices"
	"testing"

	"ledger/api"
	"ledger/disk"
	"ledger/note"
	"ledger/server"
	"ledger/store"
)

// opened: the same done by the server on one disk and by the store on its twin: the errors, the acts, and what a crash leaves.
func opened(t *testing.T, what string, creates bool, a, b *disk.Disk, c store.Config) (*server.Server, *store.Store, api.Errno) {
	t.Helper()
	begin, twin := server.Open, store.Open
	if creates {
		begin, twin = server.Create, store.Create
	}
	s, e := begin(a, c)
	u, f := twin(b, c)
	if e != f || (s == nil) != (e != api.OK) {
		t.Errorf("%s (%v): %v, %d; the store answers %d", what, creates, s != nil, int(e), int(f))
	}
	if told(a) != told(b) {
		t.Errorf("%s (%v): the disk has\n%s\nthe store leaves\n%s", what, creates, told(a), told(b))
	}
	if s != nil && (s.Size() != u.Size() || string(s.Head()) != string(u.Head())) {
		t.Errorf("%s (%v): Size %d, Head %q", what, creates, s.Size(), s.Head())
	}
	return s, u, e
}

// diskOf: of some files, as they came to be.
func diskOf(t *testing.T, kind string) *disk.Disk {
	t.Helper()
	c := config(1)
	d, s := begun(t, c, recs(0, 3)...)
	switch kind {
	case "empty":
		return made(t)
	case "rubbish":
		return loaded(t, []disk.File{{Name: "head.new", Data: []byte("x")}, {Name: "tile/x", Data: []byte("y")}, {Name: "cache/z"}})
	case "no head":
		d.Remove("head")
	case "rubbish beside the log":
		d.Create("tile/1/0/000.p/1")
		d.Create("head.new")
		d.Create("other")
	case "spoilt":
		d.Write("tile/1/0/000", 3, []byte("###"))
	case "shut":
		d.Fail(7, api.ErrIO)
		s.Append(recs(3, 5))
	case "dead":
		d.Crash(nil)
	}
	return d
}

func TestCreateAndOpenAreTheStores(t *testing.T) { // P15.1: on every kind of disk, with every fault, at every act
	for _, kind := range []string{"empty", "rubbish", "a log", "no head", "rubbish beside the log", "spoilt", "shut", "dead"} {
		for _, creates := range []bool{true, false} {
			for n := range 12 {
				for _, fault := range []api.Errno{api.ErrIO, api.ErrFull, api.ErrDead} {
					a, b := diskOf(t, kind), diskOf(t, kind)
					a.Fail(n, fault)
					b.Fail(n, fault)
					what := fmt.Sprintf("%s, a fault %d at act %d", kind, int(fault), n)
					opened(t, what, creates, a, b, config(1))
					for _, choices := range [][]int{nil, {1}, {-1, -1}} {
						if told(a.Crash(choices)) != told(b.Crash(choices)) {
							t.Errorf("%s (%v): a crash leaves other files", what, creates)
						}
					}
				}
			}
		}
	}
}

func TestConfigsOfCreateAndOpen(t *testing.T) { // P15.1: ErrConfig ahead of all else; a log of another config is none
	for _, kind := range []string{"empty", "a log", "dead"} {
		for _, creates := range []bool{true, false} {
			for _, change := range []func(*store.Config){
				func(c *store.Config) {}, func(c *store.Config) { *c = store.Config{} }, func(c *store.Config) { c.Height = 0 }, func(c *store.Config) { c.Height = 9 }, func(c *store.Config) { c.Height = 2 },
				func(c *store.Config) { c.Origin = "" }, func(c *store.Config) { c.Origin = "a b" }, func(c *store.Config) { c.Origin = "other" }, func(c *store.Config) { c.Signer = "" }, func(c *store.Config) { c.Signer = signerOf(note.AlgDrill, 4) }, func(c *store.Config) { c.Signer = signerOf(note.AlgEd25519, 3) },
				func(c *store.Config) { c.Strength = 1 }, func(c *store.Config) { c.Strength = -5 },
			} {
				c := config(1)
				change(&c)
				opened(t, fmt.Sprintf("%s, %+v", kind, c), creates, diskOf(t, kind), diskOf(t, kind), c)
			}
		}
	}
	c := config(1)
	for _, x := range []struct {
		kind    string
		creates bool
		want    api.Errno
	}{
		{"empty", true, api.OK}, {"empty", false, api.ErrNoLog}, {"rubbish", true, api.OK}, {"rubbish", false, api.ErrNoLog}, {"a log", true, api.ErrHasLog}, {"a log", false, api.OK}, {"no head", true, api.OK}, {"no head", false, api.ErrNoLog}, {"spoilt", false, api.ErrBroken}, {"dead", true, api.ErrDead}, {"dead", false, api.ErrDead}, {"shut", false, api.OK},
	} {
		if _, _, e := opened(t, x.kind, x.creates, diskOf(t, x.kind), diskOf(t, x.kind), c); e != x.want {
			t.Errorf("%s (%v): %d; want %d", x.kind, x.creates, int(e), int(x.want))
		}
	}
}

func TestAppendIsTheStores(t *testing.T) { // P15.2: ids, errors, acts, size and head, with faults on the way
	for seed := range 12 {
		r := rand.New(rand.NewSource(int64(seed)))
		c := config(1 + r.Intn(3))
		a, b := made(t), made(t)
		s, u, _ := opened(t, "new disks", true, a, b, c)
		for i := range 40 {
			for u == nil || u.Shut() && r.Intn(3) == 0 { // a fault that is named may strike the opening
				s, u, _ = opened(t, "again", false, a, b, c)
			}
			if r.Intn(6) == 0 {
				n := 1 + r.Intn(30)
				a.Fail(n, api.ErrIO)
				b.Fail(n, api.ErrIO)
			}
			first := r.Intn(60)
			records := recs(first, first+r.Intn(5))
			switch r.Intn(9) {
			case 0:
				records = append(records, "x")
			case 1:
				records = append(records, rec(r.Intn(9), 7), rec(first))
			}
			ids, e := s.Append(records)
			want, f := u.Append(records)
			if e != f || !slices.Equal(ids, want) || (ids == nil) != (want == nil) {
				t.Fatalf("Append = %v, %d; the store's %v, %d", ids, int(e), want, int(f))
			}
			if told(a) != told(b) || s.Size() != u.Size() || string(s.Head()) != string(u.Head()) {
				t.Fatalf("seed %d, append %d: Size %d, Head %q; the store's %d, %q", seed, i, s.Size(), s.Head(), u.Size(), u.Head())
			}
		}
	}
}

func TestAppendRefuses(t *testing.T) { // P15.2, P0.1: as chapter 13 names them, and in that order
	c := config(1)
	d, s := begun(t, c, three()...)
	for _, x := range []struct {
		records []string
		e       api.Errno
	}{
		{append(recs(0, 1024), "x"), api.ErrLong}, {[]string{rec(0), "x"}, api.ErrRecord}, {[]string{"A.com v1 h1:\nA.com v1/go.mod h1:\n"}, api.ErrModPath}, {[]string{""}, api.ErrRecord},
	} {
		if ids, e := s.Append(x.records); ids != nil || e != x.e {
			t.Errorf("Append of %d records = %v, %d; want %d", len(x.records), ids, int(e), int(x.e))
		}
	}
	for _, none := range [][]string{nil, {}} {
		if ids, e := s.Append(none); len(ids) != 0 || e != api.OK {
			t.Errorf("Append of none = %v, %d", ids, int(e))
		}
	}
	isLog(t, "behind what was refused", s, c, three())
	d.Fail(4, api.ErrIO)
	if ids, e := s.Append(recs(0, 2)); ids != nil || e != api.ErrIO {
		t.Errorf("Append with a fault = %v, %d", ids, int(e))
	}
	if ids, e := s.Append(append(recs(0, 1024), "x")); ids != nil || e != api.ErrShut {
		t.Errorf("Append of a shut log = %v, %d", ids, int(e))
	}
}

func TestAShutLogGoesOnTelling(t *testing.T) { // the chapter's Words, P15.2: as the log was; opened anew it grows
	c := config(1)
	for n := 1; n <= 12; n++ {
		d, s := begun(t, c, recs(0, 3)...)
		d.Fail(n, api.ErrIO)
		if _, e := s.Append(recs(3, 4)); e != api.ErrIO {
			t.Fatalf("a fault at act %d: %d", n, int(e))
		}
		isLog(t, "shut", s, c, recs(0, 3))
		answers(t, s, "GET", "/lookup/"+keyOf(2), 200, bodyOf(c, recs(0, 3), 2))
		refuses(t, s, 404, "GET", "/lookup/"+keyOf(3), "/tile/1/0/001")
		if status, b := s.Answer("GET", "/tile/1/0/001.p/1"); status != 200 || len(b) != 32 {
			t.Errorf("a tile of a shut log: %d, %d bytes", status, len(b))
		}
		o, e := server.Open(d, c)
		if e != api.OK {
			t.Fatal(e)
		}
		if ids, e := o.Append(recs(2, 5)); !slices.Equal(ids, []int64{2, 3, 4}) || e != api.OK {
			t.Errorf("Append to what was opened anew = %v, %d", ids, int(e))
		}
		isLog(t, "opened anew", o, c, recs(0, 5))
	}
}
