package audit_test

import (
	"fmt"
	"math"
	"slices"
	"strings"
	"testing"

	"ledger/api"
	"ledger/audit"
	"ledger/client"
	"ledger/modver"
	"ledger/note"
	"ledger/proof"
)

func TestHoldsOfAllFacts(t *testing.T) { // P22.5: of each record in each tree, held against each that was read as far or not
	for _, k := range []int{0, 3} {
		l := newLog(k, 2, someKeysTwice(17)...)
		for m := range 18 {
			a := loaded(t, configOf(k, 2), l.saved(m))
			for n := 1; n <= 17; n++ {
				for i := range n {
					right := api.OK
					if n > m {
						right = api.ErrArg
					}
					want(t, fmt.Sprintf("Holds of %d in %d by one who has read %d", i, n, m), a.Holds(l.factOf(i, n)), right)
				}
			}
		}
	}
}

func TestHoldsOfAnotherLog(t *testing.T) { // P22.5: ErrNothing, where the trees part; OK, where they don't yet
	l := newLog(0, 2, recs(0, 12)...)
	a := at(t, configOf(0, 2), l, 12)
	for parts := range 12 {
		fork := newLog(0, 2, append(recs(0, parts), recs(parts, 12, 8)...)...)
		for n := 1; n <= 12; n++ {
			for i := range n {
				right := api.OK
				if n > parts {
					right = api.ErrNothing
				}
				want(t, fmt.Sprintf("Holds of %d in %d, parted at %d", i, n, parts), a.Holds(fork.factOf(i, n)), right)
			}
		}
	}
}

// fault: a way in which a part of a fact is none, and its number.
type fault struct {
	part, what string
	change     func(f *client.Fact)
	e          api.Errno
}

func kindFault(kind int) fault {
	return fault{"kind", fmt.Sprint("kind ", kind), func(f *client.Fact) { f.Kind = kind }, api.ErrArg}
}

func sizeFault(size int64, e api.Errno) fault {
	return fault{"size", fmt.Sprint("size ", size), func(f *client.Fact) { f.Head.Size = size }, e}
}

func idFault(id int64, e api.Errno) fault {
	return fault{"id", fmt.Sprint("id ", id), func(f *client.Fact) { f.Id = id }, e}
}

func recordFault(what, record string) fault {
	return fault{"record", what, func(f *client.Fact) { f.Record = record }, api.ErrTranscript}
}

func proofFault(what string, change func(p []api.Hash) []api.Hash) fault {
	return fault{"proof", what, func(f *client.Fact) { f.Proof = change(slices.Clone(f.Proof)) }, api.ErrTranscript}
}

// factFaults: of the fact of record 2 in the tree of 5, by one who has read 7.
func factFaults() []fault {
	least, most := int64(math.MinInt64), int64(math.MaxInt64)
	return []fault{
		kindFault(client.Moved), kindFault(client.Agreed), kindFault(0), kindFault(4), kindFault(-1),
		sizeFault(0, api.ErrArg), sizeFault(-1, api.ErrArg), sizeFault(least, api.ErrArg), sizeFault(8, api.ErrArg), sizeFault(most, api.ErrArg), sizeFault(4, api.ErrTranscript), sizeFault(7, api.ErrNothing), // the way of record 2 is as long in 7 as in 5
		idFault(-1, api.ErrArg), idFault(least, api.ErrArg), idFault(most, api.ErrArg), idFault(9, api.ErrArg), idFault(1, api.ErrTranscript), idFault(3, api.ErrTranscript),
		recordFault("no record", ""), recordFault("a record and more", rec(2)+"\n"), recordFault("a long record", strings.Repeat("x", 1<<20)), recordFault("another record", rec(1)), recordFault("other sums", rec(2, 8)),
		{"record", "another record and its key", func(f *client.Fact) { f.Record = rec(1); f.Path, f.Version = pathOf(1) }, api.ErrTranscript},
		{"path", "another path", func(f *client.Fact) { f.Path += "x" }, api.ErrTranscript}, {"path", "no path", func(f *client.Fact) { f.Path = "" }, api.ErrTranscript},
		{"version", "another version", func(f *client.Fact) { f.Version = "v1.0.0" }, api.ErrTranscript}, {"version", "no version", func(f *client.Fact) { f.Version = "" }, api.ErrTranscript}, {"version", "the go.mod's version", func(f *client.Fact) { f.Version += "/go.mod" }, api.ErrTranscript},
		{"root", "another root", func(f *client.Fact) { f.Head.Root[31] ^= 1 }, api.ErrTranscript}, {"root", "no root", func(f *client.Fact) { f.Head.Root = api.Hash{} }, api.ErrTranscript},
		proofFault("no proof", func(p []api.Hash) []api.Hash { return nil }), proofFault("a hash less", func(p []api.Hash) []api.Hash { return p[1:] }), proofFault("a hash more", func(p []api.Hash) []api.Hash { return append(p, api.Hash{}) }), proofFault("many hashes", func(p []api.Hash) []api.Hash { return make([]api.Hash, 10000) }),
		proofFault("the first hash turned", func(p []api.Hash) []api.Hash { p[0][31] ^= 1; return p }), proofFault("the last hash turned", func(p []api.Hash) []api.Hash { p[len(p)-1][0] ^= 1; return p }),
		{"origin", "another origin", func(f *client.Fact) { f.Head.Origin = "x" }, api.OK}, {"origin", "no origin", func(f *client.Fact) { f.Head.Origin = "" }, api.OK}, {"old", "an old head", func(f *client.Fact) { f.Old = note.Head{Origin: "x", Size: -9} }, api.OK}, {"note", "a note", func(f *client.Fact) { f.Note = []byte("x") }, api.OK},
	}
}

func TestHoldsOfFaults(t *testing.T) { // P22.5: each fault by itself
	l := newLog(0, 2, recs(0, 9)...)
	a := at(t, configOf(0, 2), l, 7)
	before := told(a)
	for _, x := range factFaults() {
		f := l.factOf(2, 5)
		x.change(&f)
		want(t, "Holds of "+x.what, a.Holds(f), x.e)
	}
	for id := range int64(7) { // just those below the fact's own size are within it
		f := l.factOf(2, 5)
		f.Id = id
		right := api.ErrTranscript
		if id == 2 {
			right = api.OK
		} else if id >= 5 {
			right = api.ErrArg
		}
		want(t, fmt.Sprint("Holds of id ", id), a.Holds(f), right)
	}
	if told(a) != before {
		t.Error("Holds changes what was read")
	}
}

// firstOf: the numbers of Holds stand in the order in which it names them; OK is the last.
func firstOf(a, b api.Errno) api.Errno {
	if a == api.OK || b == api.OK {
		return a + b
	}
	return min(a, b)
}

func TestHoldsOfTwoFaults(t *testing.T) { // P22.5, P0.1: the one that is named first counts
	l := newLog(0, 2, recs(0, 9)...)
	fork := newLog(0, 2, recs(0, 9, 9)...)
	a := at(t, configOf(0, 2), l, 7)
	for _, x := range factFaults() {
		f := fork.factOf(2, 5)
		x.change(&f)
		want(t, "Holds of "+x.what+" and another log", a.Holds(f), firstOf(x.e, api.ErrNothing))
		for _, y := range factFaults() {
			if x.part == y.part {
				continue
			}
			f := l.factOf(2, 5)
			x.change(&f)
			y.change(&f)
			want(t, "Holds of "+x.what+" and "+y.what, a.Holds(f), firstOf(x.e, y.e))
		}
	}
	parted := newLog(0, 2, append(recs(0, 3), recs(3, 7, 9)...)...)
	want(t, "Holds of another root and another record", a.Holds(parted.factOf(4, 5)), api.ErrNothing)
}

// twin: a record of the same key and leaf hash of strength k as this one, which it isn't.
func twin(k int, record string) (string, bool) {
	path, version, _, _, _ := modver.ParseRecord(record)
	for i := range 1000000 {
		sum := [32]byte{byte(i), byte(i >> 8), byte(i >> 16), 77}
		r, _ := modver.Record(path, version, sum, sum)
		if r != record && leafOf(k, r) == leafOf(k, record) {
			return r, true
		}
	}
	return "", false
}

// readProof: a record that was read, and its record proof in the tree of the first n.
func readProof(t *testing.T, a *audit.Auditor, k int, n, i int64) (string, []api.Hash) {
	t.Helper()
	var records []string
	for id := range n {
		r, _ := a.Record(id)
		records = append(records, r)
	}
	return records[i], proofOf(k, records, int(i))
}

func TestInclusionIsACollision(t *testing.T) { // P22.5: proof.CollideRecords makes a pair of the fact and of what was read
	for _, k := range []int{1, 2} {
		l := newLog(k, 2, recs(0, 11)...)
		a := at(t, configOf(k, 2), l, 11)
		for i := range 11 / (1 + 9*(k-1)) { // of strength 2 twins are rare
			r, found := twin(k, l.records[i])
			if !found {
				t.Fatalf("no twin of record %d of strength %d", i, k)
			}
			for n := i + 1; n <= 11; n++ {
				f := l.factOf(i, n)
				f.Record = r
				want(t, "Holds of a twin", a.Holds(f), api.ErrInclusion)
				collides(t, a, k, f)
			}
		}
	}
}

func collides(t *testing.T, a *audit.Auditor, k int, f client.Fact) {
	t.Helper()
	read, way := readProof(t, a, k, f.Head.Size, f.Id)
	pair, e := proof.CollideRecords(k, f.Head.Size, f.Id, []byte(f.Record), f.Proof, []byte(read), way)
	if e != api.OK || !proof.Collides(k, pair) {
		t.Errorf("CollideRecords of record %d in %d = %d", f.Id, f.Head.Size, int(e))
	}
}

func TestInclusionByAnotherPath(t *testing.T) { // P22.5: unlike leaf hashes too, where the trees meet further up
	const k = 1
	l := newLog(k, 2, recs(0, 4)...)
	a := at(t, configOf(k, 2), l, 4)
	met := 0
	for salt := range 256 {
		for last := range 256 {
			other := newLog(k, 2, l.records[0], rec(1, byte(salt), 7), l.records[2], rec(3, byte(last), 7))
			if leafOf(k, other.records[1]) == leafOf(k, l.records[1]) || rootOf(k, other.records) != rootOf(k, l.records) {
				continue
			}
			met++
			f := other.factOf(1, 4)
			want(t, "Holds of another tree of this root", a.Holds(f), api.ErrInclusion)
			collides(t, a, k, f)
		}
		if met > 20 {
			return
		}
	}
	t.Errorf("%d trees of one root", met)
}

func TestHoldsIsByTheStrength(t *testing.T) { // P22.5: a proof of another strength is none
	for _, x := range []struct{ k, other int }{{0, 1}, {1, 0}, {5, 6}, {31, 32}} {
		l, other := newLog(x.k, 2, recs(0, 7)...), newLog(x.other, 2, recs(0, 7)...)
		a := at(t, configOf(x.k, 2), l, 7)
		want(t, "Holds", a.Holds(l.factOf(3, 6)), api.OK)
		want(t, "Holds of another strength", a.Holds(other.factOf(3, 6)), api.ErrTranscript)
	}
}

func TestHoldsOfWhatIsNoRecord(t *testing.T) { // P22.5: ErrTranscript, also where its proof leads to the fact's root, or to that of what was read
	l := newLog(0, 2, recs(0, 7)...)
	a := at(t, configOf(0, 2), l, 7)
	for _, x := range []string{"", "x", rec(2) + "\n", strings.ReplaceAll(rec(2), "m.example", "M.example")} {
		other := newLog(0, 2, rec(0), rec(1), x, rec(3))
		f := client.Fact{Kind: client.Accepted, Id: 2, Record: x, Head: other.head(4), Proof: proofOf(0, other.records, 2)}
		want(t, "Holds of no record, without a key", a.Holds(f), api.ErrTranscript)
		f.Path, f.Version = pathOf(2)
		want(t, "Holds of no record, with a key", a.Holds(f), api.ErrTranscript)
	}
	weak := newLog(1, 2, recs(0, 7)...)
	a = at(t, configOf(1, 2), weak, 7)
	f := weak.factOf(2, 7)
	for i := 0; ; i++ {
		f.Record = fmt.Sprint("no record ", i)
		if leafOf(1, f.Record) == leafOf(1, weak.records[2]) {
			break
		}
	}
	want(t, "Holds of a twin that is no record", a.Holds(f), api.ErrTranscript)
	f.Path, f.Version = "", ""
	want(t, "Holds of a twin that is no record, without a key", a.Holds(f), api.ErrTranscript)
}
