package evidence_test

import (
	"crypto/sha256"
	"fmt"
	"math"
	"slices"
	"testing"

	"ledger/api"
	"ledger/client"
	"ledger/evidence"
	"ledger/modver"
	"ledger/note"
)

const (
	origin  = "log.example"
	path    = "a.example"
	version = "v1.0.0"
)

// strengths: the edges of what is kept, and numbers that mean all of it.
var strengths = []int{0, 1, 2, 31, 32, 33, -1, 99, math.MaxInt, math.MinInt}

// hashOf: of the bytes put together, by the library.
func hashOf(k int, pieces ...[]byte) (h api.Hash) {
	kept := 32
	if k >= 1 && k <= 31 {
		kept = k
	}
	full := sha256.Sum256(slices.Concat(pieces...))
	copy(h[:kept], full[:])
	return h
}

func leafOf(k int, record string) api.Hash { return hashOf(k, []byte{0}, []byte(record)) }

func nodeOf(k int, left, right api.Hash) api.Hash {
	return hashOf(k, []byte{1}, left[:], right[:])
}

// leafBytes, nodeBytes: what is hashed.
func leafBytes(record string) string { return "\x00" + record }

func nodeBytes(left, right api.Hash) string { return "\x01" + string(left[:]) + string(right[:]) }

// rec: a record of the path; salts make others of the same key.
func rec(path string, salt ...byte) string {
	var sum [32]byte
	copy(sum[:], salt)
	r, e := modver.Record(path, version, sum, [32]byte{7})
	if e != api.OK {
		panic(e)
	}
	return r
}

// meeting: another record of the path, with a leaf hash of strength 1 that is given.
func meeting(path string, leaf api.Hash) string {
	for x := range 1 << 16 {
		if r := rec(path, 1, byte(x), byte(x>>8)); leafOf(1, r) == leaf {
			return r
		}
	}
	panic("no record has this leaf hash")
}

func head(n int64, root api.Hash) note.Head {
	return note.Head{Origin: origin, Size: n, Root: root}
}

func empty(k int) note.Head { return head(0, hashOf(k)) }

func moved(old, new note.Head, p ...api.Hash) client.Fact {
	return client.Fact{Kind: client.Moved, Old: old, Head: new, Proof: p, Note: []byte("any")}
}

func agreed(old, new note.Head, p ...api.Hash) client.Fact {
	return client.Fact{Kind: client.Agreed, Old: old, Head: new, Proof: p, Note: []byte("any")}
}

func accepted(record string, id int64, h note.Head, p ...api.Hash) client.Fact {
	path, version, _, _, _ := modver.ParseRecord(record)
	return client.Fact{Kind: client.Accepted, Path: path, Version: version, Id: id, Record: record, Head: h, Proof: p}
}

// but: a fact that is changed.
func but(f client.Fact, change func(f *client.Fact)) client.Fact {
	change(&f)
	return f
}

// book: the records of a log, and the facts of those who have come to know it rightly.
type book struct {
	k       int
	records []string
}

// bookOf: n records of unlike keys.
func bookOf(k, n int) book {
	b := book{k: k}
	for i := range n {
		b.records = append(b.records, rec(fmt.Sprintf("m.example/x%d", i), byte(i)))
	}
	return b
}

func (b book) size() int64 { return int64(len(b.records)) }

// cutOf: of the range from..to, which has two records or more.
func cutOf(from, to int64) int64 {
	power := int64(1)
	for 2*power < to-from {
		power *= 2
	}
	return from + power
}

func (b book) root(from, to int64) api.Hash {
	if to-from == 1 {
		return leafOf(b.k, b.records[from])
	}
	c := cutOf(from, to)
	return nodeOf(b.k, b.root(from, c), b.root(c, to))
}

func (b book) head(n int64) note.Head {
	if n == 0 {
		return empty(b.k)
	}
	return head(n, b.root(0, n))
}

// area: the range from..to.
type area struct{ from, to int64 }

func recordWay(i, from, to int64) []area {
	if to-from == 1 {
		return nil
	}
	c := cutOf(from, to)
	if i < c {
		return append(recordWay(i, from, c), area{c, to})
	}
	return append(recordWay(i, c, to), area{from, c})
}

func treeWay(m, from, to int64) []area {
	if m == to {
		if from == 0 {
			return nil
		}
		return []area{{from, to}}
	}
	c := cutOf(from, to)
	if m <= c {
		return append(treeWay(m, from, c), area{c, to})
	}
	return append(treeWay(m, c, to), area{from, c})
}

func (b book) roots(way []area) []api.Hash {
	var out []api.Hash
	for _, a := range way {
		out = append(out, b.root(a.from, a.to))
	}
	return out
}

func (b book) recordProof(n, i int64) []api.Hash { return b.roots(recordWay(i, 0, n)) }

// treeProof: none, if the smaller tree has no records.
func (b book) treeProof(n, m int64) []api.Hash {
	if m == 0 {
		return nil
	}
	return b.roots(treeWay(m, 0, n))
}

func (b book) moved(m, n int64) client.Fact {
	return moved(b.head(m), b.head(n), b.treeProof(n, m)...)
}

func (b book) agreed(m, n int64) client.Fact {
	return agreed(b.head(m), b.head(n), b.treeProof(n, m)...)
}

func (b book) accepted(i, n int64) client.Fact {
	return accepted(b.records[i], i, b.head(n), b.recordProof(n, i)...)
}

func tell(v any) string { return fmt.Sprintf("%+v", v) }

func want(t *testing.T, what string, got, e api.Errno) {
	t.Helper()
	if got != e {
		t.Fatalf("%s = %d; want %d", what, int(got), int(e))
	}
}

// isTranscript: by Check, by Final and by Find, which tell the same.
func isTranscript(t *testing.T, what string, k int, facts []client.Fact, final note.Head) {
	t.Helper()
	want(t, what+": Check", evidence.Check(k, facts), api.OK)
	if h, e := evidence.Final(k, facts); h != final || e != api.OK {
		t.Fatalf("%s: Final = %v, %d; want %v", what, h, int(e), final)
	}
	if f, e := evidence.Find(k, facts, "none.example", version); tell(f) != tell(client.Fact{}) || e != api.ErrAbsent {
		t.Fatalf("%s: Find = %v, %d; want %d", what, f, int(e), int(api.ErrAbsent))
	}
}

// isNone: likewise; and Judge refuses the facts, on whichever side they stand, whatever the other side has.
func isNone(t *testing.T, what string, k int, facts []client.Fact, check api.Errno) {
	t.Helper()
	want(t, what+": Check", evidence.Check(k, facts), check)
	if h, e := evidence.Final(k, facts); h != (note.Head{}) || e != api.ErrTranscript {
		t.Fatalf("%s: Final = %v, %d", what, h, int(e))
	}
	for _, p := range []string{path, "m.example/x0", "none.example", ""} {
		if f, e := evidence.Find(k, facts, p, version); tell(f) != tell(client.Fact{}) || e != api.ErrTranscript {
			t.Fatalf("%s: Find = %v, %d", what, f, int(e))
		}
	}
	r := rec(path)
	one := head(1, leafOf(k, r))
	for _, beside := range [][]client.Fact{nil, {moved(empty(k), one), accepted(r, 0, one)}} {
		refuses(t, what, k, facts, beside, nil, api.ErrTranscript)
		refuses(t, what, k, beside, facts, nil, api.ErrTranscript)
	}
}

// refuses: Judge of the key path and version.
func refuses(t *testing.T, what string, k int, a, b []client.Fact, link []api.Hash, e api.Errno) {
	t.Helper()
	if v, got := evidence.Judge(k, a, b, path, version, link); tell(v) != tell(evidence.Verdict{}) || got != e {
		t.Fatalf("%s: Judge = %v, %d; want %d", what, v, int(got), int(e))
	}
}

// judges: Judge of the key path and version answers this verdict, and it holds.
func judges(t *testing.T, what string, k int, a, b []client.Fact, link []api.Hash, v evidence.Verdict) {
	t.Helper()
	got, e := evidence.Judge(k, a, b, path, version, link)
	if tell(got) != tell(v) || e != api.OK {
		t.Fatalf("%s: Judge = %+v, %d; want %+v", what, got, int(e), v)
	}
	if !evidence.Holds(k, got, path, version) {
		t.Fatalf("%s: the verdict doesn't hold", what)
	}
}
