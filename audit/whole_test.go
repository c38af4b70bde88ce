package audit_test

import (
	"fmt"
	"math/rand"
	"slices"
	"testing"

	"ledger/api"
	"ledger/audit"
	"ledger/client"
	"ledger/disk"
	"ledger/note"
	"ledger/server"
	"ledger/store"
	"ledger/tile"
	"ledger/tlog"
)

// logOn: a server over a new disk, by a key of the drill or of Ed25519.
func logOn(t *testing.T, alg, k, h int) (*server.Server, client.Config) {
	t.Helper()
	d, e := disk.New(1 << 30)
	if e != api.OK {
		t.Fatal(e)
	}
	signer, verifier, e := note.Generate(origin, alg, [32]byte{8})
	if e != api.OK {
		t.Fatal(e)
	}
	s, e := server.Create(d, store.Config{Origin: origin, Signer: signer, Strength: k, Height: h})
	if e != api.OK {
		t.Fatal(e)
	}
	return s, client.Config{Origin: origin, Verifier: verifier, Strength: k, Height: h, Limit: api.MaxBytes}
}

func appended(t *testing.T, s *server.Server, records []string) {
	t.Helper()
	for list := range slices.Chunk(records, api.MaxBatch) {
		if _, e := s.Append(list); e != api.OK {
			t.Fatal(e)
		}
	}
}

// servedBy: all that is wanted is answered by the server, till nothing is.
func servedBy(a interface {
	Wants() [][]byte
	Give([][]byte) api.Errno
}, s *server.Server) {
	for len(a.Wants()) > 0 {
		var answers [][]byte
		for _, w := range a.Wants() {
			answers = append(answers, s.Serve(w))
		}
		a.Give(answers)
	}
}

// tells: the log's records and its head.
func tells(t *testing.T, a *audit.Auditor, s *server.Server, records []string) {
	t.Helper()
	ended(t, fmt.Sprintf("a reading of %d records", len(records)), a, api.OK)
	if h := a.Head(); h.Size != s.Size() || h.Size != int64(len(records)) {
		t.Fatalf("Head = %+v; the log has %d", h, s.Size())
	}
	for id, r := range records {
		if got, e := a.Record(int64(id)); got != r || e != api.OK {
			t.Fatalf("Record(%d) = %q, %d; want %q", id, got, int(e), r)
		}
	}
	if s.Size() > 0 && string(a.Note()) != string(s.Head()) {
		t.Errorf("Note = %q; want %q", a.Note(), s.Head())
	}
	if len(a.Repeats()) != 0 {
		t.Errorf("Repeats = %v: a log takes each key once", a.Repeats())
	}
}

func TestLogsAreRead(t *testing.T) { // P22.6: of every height and some strengths, as they grow; all that a session accepts holds
	t.Parallel()
	for h := 1; h <= 8; h++ {
		k := []int{0, 32, 1, 9}[h%4]
		s, c := logOn(t, note.AlgDrill, k, h)
		a, session := begun(t, c), sessionOf(t, c)
		r := rand.New(rand.NewSource(int64(h)))
		var records []string
		for range 14 {
			a.Read()
			servedBy(a, s)
			tells(t, a, s, records)
			looked(session, s, r, len(records))
			factsHold(t, a, session)
			more := recs(len(records), len(records)+r.Intn(40))
			records = append(records, more...)
			appended(t, s, append(more, records[:min(len(records), 3)]...))
			looked(session, s, r, len(records)) // further than the auditor has read
			factsHold(t, a, session)
		}
		a.Read()
		servedBy(a, s)
		factsHold(t, a, session)
	}
}

func sessionOf(t *testing.T, c client.Config) *client.Client {
	t.Helper()
	session, e := client.New(c, filesFor(t))
	if e != api.OK {
		t.Fatal(e)
	}
	return session
}

// looked: some lookups, of keys that are there and of one that isn't.
func looked(session *client.Client, s *server.Server, r *rand.Rand, n int) {
	for range 5 {
		session.Lookup(pathOf(r.Intn(n + 1)))
		servedBy(session, s)
	}
}

// factsHold: each one Accepted, as far as was read.
func factsHold(t *testing.T, a *audit.Auditor, session *client.Client) {
	t.Helper()
	for _, f := range session.Facts() {
		right := api.OK
		if f.Kind != client.Accepted || f.Head.Size > a.Head().Size {
			right = api.ErrArg
		}
		want(t, fmt.Sprintf("Holds of a fact %d, id %d in %d", f.Kind, f.Id, f.Head.Size), a.Holds(f), right)
	}
}

func TestLogOfEd25519(t *testing.T) { // P22.6: with the key that is meant
	s, c := logOn(t, note.AlgEd25519, 32, 8)
	a := begun(t, c)
	for n := 10; n <= 30; n += 10 {
		appended(t, s, recs(n-10, n))
		a.Read()
		servedBy(a, s)
		tells(t, a, s, recs(0, n))
		a = loaded(t, c, string(a.Save()))
	}
}

func TestLogOfManyTiles(t *testing.T) { // P22.6: more than one group, and numbers of tiles from 1000 on
	t.Parallel()
	s, c := logOn(t, note.AlgDrill, 0, 1)
	a := begun(t, c)
	for _, n := range []int{1, 700, 2100, 2101} {
		appended(t, s, recs(int(s.Size()), n))
		a.Read()
		servedBy(a, s)
		tells(t, a, s, recs(0, n))
	}
}

func TestShutAndRecoveredLog(t *testing.T) { // P22.6, P22.1: an append that failed, behind a crash: the auditor goes on, or finds what it had read
	signer, verifier := keysOf(origin, 1)
	conf := store.Config{Origin: origin, Signer: signer, Height: 2}
	for fault := 1; fault < 30; fault++ {
		d, _ := disk.New(1 << 24)
		s, _ := server.Create(d, conf)
		appended(t, s, recs(0, 6))
		a := begun(t, client.Config{Origin: origin, Verifier: verifier, Height: 2, Limit: limit})
		d.Fail(fault, api.ErrIO)
		_, e := s.Append(recs(6, 11))
		a.Read()
		servedBy(a, s)
		ended(t, "behind a failed append", a, api.OK)
		before := a.Head().Size
		if right := map[bool]int64{true: 11, false: 6}[e == api.OK]; before != right {
			t.Errorf("read %d records; want %d", before, right)
		}
		s, e = server.Open(d.Crash([]int{fault, 1, 1}), conf)
		if e != api.OK {
			t.Fatal(e)
		}
		a.Read()
		servedBy(a, s)
		ended(t, "behind a crash", a, api.OK)
		if a.Head().Size != s.Size() || a.Head().Size < before {
			t.Errorf("read %d records, then %d; the log has %d", before, a.Head().Size, s.Size())
		}
		appended(t, s, recs(6, 20))
		a.Read()
		servedBy(a, s)
		tells(t, a, s, recs(0, 20))
	}
}

func TestAgainstStoredHashes(t *testing.T) { // P22.1: the root is tlog's of the leaf hashes, and the data tiles are tile's
	for _, k := range []int{0, 7} {
		l := newLog(k, 3, recs(0, 33)...)
		tree := tlog.New(k)
		for n := range 33 {
			tree.Add(tlog.LeafHash(k, []byte(l.records[n])))
			a := at(t, configOf(k, 3), l, n+1)
			if root, _ := tree.Root(int64(n + 1)); a.Head().Root != root {
				t.Errorf("Root of %d = %x; tlog's is %x", n+1, a.Head().Root, root)
			}
		}
	}
	for _, x := range []tile.Tile{{H: 1, N: 999, W: 2, Data: true}, {H: 1, N: 1000, W: 1, Data: true}, {H: 1, N: 32767, W: 2, Data: true}, {H: 8, N: 255, W: 256, Data: true}, {H: 8, W: 255, Data: true}} {
		if path, e := tile.Path(x); "/"+path != pathOfData(x.H, int(x.N), x.W) || e != api.OK {
			t.Errorf("Path = %q, %d", path, int(e))
		}
	}
}

func TestReadersOfOneLog(t *testing.T) { // P22.6, P0.2: two who read the same log by other steps tell the same at its end
	s, c := logOn(t, note.AlgDrill, 0, 2)
	often, once := begun(t, c), begun(t, c)
	for n := range 40 {
		appended(t, s, recs(n, n+1))
		often.Read()
		servedBy(often, s)
	}
	once.Read()
	servedBy(once, s)
	if told(often) != told(once) {
		t.Errorf("one who has read it often tells\n%.2000s; one who has read it once\n%.2000s", told(often), told(once))
	}
}

func TestRepeatsAndFind(t *testing.T) { // P22.4: of what Record tells, and of nothing else
	r := rand.New(rand.NewSource(3))
	for n := range 60 {
		var records []string
		for range n {
			records = append(records, rec(r.Intn(n/2+20), byte(r.Intn(2))))
		}
		l := newLog(0, 3, records...)
		a := begun(t, configOf(0, 3))
		for to := 0; to <= n; to += 1 + r.Intn(9) {
			readTo(a, l, to)
			checkKeys(t, a, l.records[:to])
		}
		checkKeys(t, loaded(t, configOf(0, 3), l.saved(n)), records)
	}
}

func checkKeys(t *testing.T, a *audit.Auditor, records []string) {
	t.Helper()
	if got, want := a.Repeats(), repeatsOf(records); !slices.Equal(got, want) {
		t.Errorf("Repeats = %v; want %v", got, want)
	}
	once := map[string]int{}
	for _, r := range records {
		once[keyIn(r)]++
	}
	if (len(a.Repeats()) == 0) != (len(once) == len(records)) {
		t.Errorf("%d repeats of %d keys in %d records", len(a.Repeats()), len(once), len(records))
	}
	for key := range once {
		if got, want := a.Find(key), idsOf(records, key); !slices.Equal(got, want) {
			t.Errorf("Find(%q) = %v; want %v", key, got, want)
		}
	}
	path, version := pathOf(0)
	for _, none := range []string{"", "@", "x", path, version, path + "@", "@" + version, path + "@" + version + " ", path + "@" + version + "/go.mod", path + " " + version, path + "@v1.0.0", "m.example/!x0@v1.0.0-!r!c1", "m.example/x0@v1.0.0-RC1", rec(0), "\x00", string(make([]byte, 1<<20))} {
		if got := a.Find(none); len(got) != 0 {
			t.Errorf("Find(%.40q) = %v", none, got)
		}
	}
}

func TestKeysOfOneRecordTwice(t *testing.T) { // P22.4: the same record twice is a repeat too; a key that stands three times is told twice
	l := newLog(0, 1, rec(1), rec(0), rec(1), rec(0, 5), rec(1), rec(2))
	a := at(t, configOf(0, 1), l, 6)
	right := []audit.Repeat{{Key: keyOf(1), I: 0, J: 2}, {Key: keyOf(0), I: 1, J: 3}, {Key: keyOf(1), I: 0, J: 4}}
	if got := a.Repeats(); !slices.Equal(got, right) {
		t.Errorf("Repeats = %v; want %v", got, right)
	}
}
