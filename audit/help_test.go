package audit_test

import (
	"crypto/sha256"
	"fmt"
	"slices"
	"strconv"
	"strings"
	"testing"

	"ledger/api"
	"ledger/audit"
	"ledger/client"
	"ledger/modver"
	"ledger/note"
	"ledger/web"
)

const (
	origin = "log.example"
	limit  = 100000
	top    = 65536 // records of the greatest log that is read
)

// keysOf: the texts of a drill's keys, which cost little.
func keysOf(name string, seed byte) (signer, verifier string) {
	signer, verifier, e := note.Generate(name, note.AlgDrill, [32]byte{seed})
	if e != api.OK {
		panic(e)
	}
	return signer, verifier
}

// configOf: of an auditor who reads a log of this strength and height.
func configOf(k, h int) client.Config {
	_, verifier := keysOf(origin, 1)
	return client.Config{Origin: origin, Verifier: verifier, Strength: k, Height: h, Limit: limit}
}

func pathOf(i int) (path, version string) { return fmt.Sprintf("m.example/X%d", i), "v1.0.0-RC1" }

func keyOf(i int) string {
	path, version := pathOf(i)
	return path + "@" + version
}

// rec: the record of key i; salts make others of the same key.
func rec(i int, salt ...byte) string {
	path, version := pathOf(i)
	var sum [32]byte
	copy(sum[:], salt)
	r, e := modver.Record(path, version, sum, [32]byte{byte(i)})
	if e != api.OK {
		panic(e)
	}
	return r
}

func recs(from, to int, salt ...byte) []string {
	var out []string
	for i := from; i < to; i++ {
		out = append(out, rec(i, salt...))
	}
	return out
}

// hashOf: SHA-256, cut to a strength.
func hashOf(k int, parts ...[]byte) api.Hash {
	h := api.Hash(sha256.Sum256(slices.Concat(parts...)))
	if k >= 1 && k <= 31 {
		clear(h[k:])
	}
	return h
}

func leafOf(k int, record string) api.Hash { return hashOf(k, []byte{0}, []byte(record)) }

// half: the greatest power of two below n.
func half(n int) int {
	h := 1
	for 2*h < n {
		h *= 2
	}
	return h
}

// rootOf: MTH of RFC 6962.
func rootOf(k int, records []string) api.Hash {
	switch n := len(records); n {
	case 0:
		return hashOf(k)
	case 1:
		return leafOf(k, records[0])
	default:
		left, right := rootOf(k, records[:half(n)]), rootOf(k, records[half(n):])
		return hashOf(k, []byte{1}, left[:], right[:])
	}
}

// proofOf: PATH of RFC 6962.
func proofOf(k int, records []string, i int) []api.Hash {
	n := len(records)
	switch {
	case n == 1:
		return nil
	case i < half(n):
		return append(proofOf(k, records[:half(n)], i), rootOf(k, records[half(n):]))
	}
	return append(proofOf(k, records[half(n):], i-half(n)), rootOf(k, records[:half(n)]))
}

// logbook: the records of a log, that can be asked as of each size that it had; keys may stand in it twice.
type logbook struct {
	k, h           int
	origin, signer string
	records        []string
}

// newLog: a log that an auditor of configOf(k, h) would read.
func newLog(k, h int, records ...string) *logbook {
	signer, _ := keysOf(origin, 1)
	return &logbook{k: k, h: h, origin: origin, signer: signer, records: records}
}

// signedBy: the same records with another key or origin.
func (l *logbook) signedBy(signer, origin string) *logbook {
	other := *l
	other.signer, other.origin = signer, origin
	return &other
}

func (l *logbook) head(n int) note.Head {
	return note.Head{Origin: l.origin, Size: int64(n), Root: rootOf(l.k, l.records[:n])}
}

func signText(text string, signers ...string) string {
	m, e := note.Sign(text, signers)
	if e != api.OK {
		panic(e)
	}
	return string(m)
}

func signHead(h note.Head, signers ...string) string {
	text, e := note.FormatHead(h)
	if e != api.OK {
		panic(e)
	}
	return signText(text, signers...)
}

// note: the signed head of the first n records.
func (l *logbook) note(n int) string { return signHead(l.head(n), l.signer) }

// lengthened: records behind their lengths.
func lengthened(records ...string) string {
	var out strings.Builder
	for _, r := range records {
		out.WriteString(string([]byte{byte(len(r) >> 8), byte(len(r))}) + r)
	}
	return out.String()
}

// saved: the state of one who has read the first n records.
func (l *logbook) saved(n int) string {
	if n == 0 {
		return "0\n"
	}
	return stateOf(l.note(n), l.records[:n]...)
}

func stateOf(message string, records ...string) string {
	return strconv.Itoa(len(message)) + "\n" + message + lengthened(records...)
}

// pathOfData: of the data tile number n.
func pathOfData(h, n, w int) string {
	number := fmt.Sprintf("%03d", n)
	if n >= 1000 {
		number = fmt.Sprintf("x%03d/%03d", n/1000, n%1000)
	}
	if w < 1<<h {
		number += fmt.Sprintf(".p/%d", w)
	}
	return fmt.Sprintf("/tile/%d/data/%s", h, number)
}

// tell: status and body for a target, as a log of the first n records tells them.
func (l *logbook) tell(target string, n int) (int, string) {
	if target == "/latest" {
		return 200, l.note(n)
	}
	rest, isData := strings.CutPrefix(target, fmt.Sprintf("/tile/%d/data/", l.h))
	rest, width, isPart := strings.Cut(rest, ".p/")
	w := 1 << l.h
	if isPart {
		w, _ = strconv.Atoi(width)
	}
	number, err := strconv.Atoi(strings.NewReplacer("x", "", "/", "").Replace(rest))
	from := number << l.h
	if !isData || err != nil || from+w > n {
		return 404, "Not Found\n"
	}
	return 200, lengthened(l.records[from : from+w]...)
}

func (l *logbook) answer(request []byte, n int) []byte {
	return answerOf(l.tell(targetOf(request), n))
}

func answerOf(status int, body string) []byte {
	b, e := web.FormatResponse(web.Response{Status: status, Minor: 1, Body: []byte(body)})
	if e != api.OK {
		panic(e)
	}
	return b
}

func ok(body string) []byte { return answerOf(200, body) }

func targetOf(request []byte) string {
	target, whole := strings.CutPrefix(string(request), "GET ")
	target, end := strings.CutSuffix(target, " HTTP/1.1\r\nHost: ledger\r\n\r\n")
	if !whole || !end {
		return fmt.Sprintf("no request: %q", request)
	}
	return target
}

func targetsIn(requests [][]byte) string {
	var out []string
	for _, w := range requests {
		out = append(out, targetOf(w))
	}
	return strings.Join(out, " ")
}

// asker: whoever wants answers.
type asker interface {
	Read() api.Errno
	Wants() [][]byte
	Give([][]byte) api.Errno
}

// round: all that is wanted now is answered by the log as of n.
func round(a asker, l *logbook, n int) {
	var answers [][]byte
	for _, w := range a.Wants() {
		answers = append(answers, l.answer(w, n))
	}
	a.Give(answers)
}

// rounds: up to the end of the reading.
func rounds(a asker, l *logbook, n int) {
	for len(a.Wants()) > 0 {
		round(a, l, n)
	}
}

// readTo: a whole reading of the log as of n.
func readTo(a asker, l *logbook, n int) {
	a.Read()
	rounds(a, l, n)
}

func begun(t *testing.T, c client.Config) *audit.Auditor {
	t.Helper()
	a, e := audit.New(c)
	if a == nil || e != api.OK {
		t.Fatalf("New = %v, %d", a != nil, int(e))
	}
	return a
}

// at: one who has read the log's first n records.
func at(t *testing.T, c client.Config, l *logbook, n int) *audit.Auditor {
	t.Helper()
	a := begun(t, c)
	readTo(a, l, n)
	if a.Result() != api.OK || a.Head() != l.head(n) {
		t.Fatalf("a reading of %d records ended with %d at %+v", n, int(a.Result()), a.Head())
	}
	return a
}

func loaded(t *testing.T, c client.Config, state string) *audit.Auditor {
	t.Helper()
	a, e := audit.Load(c, []byte(state))
	if a == nil || e != api.OK {
		t.Fatalf("Load = %v, %d", a != nil, int(e))
	}
	return a
}

func want(t *testing.T, what string, got, e api.Errno) {
	t.Helper()
	if got != e {
		t.Errorf("%s = %d; want %d", what, int(got), int(e))
	}
}

func wants(t *testing.T, what string, a asker, targets ...string) {
	t.Helper()
	if got := targetsIn(a.Wants()); got != strings.Join(targets, " ") {
		t.Errorf("%s: wants %q; want %q", what, got, targets)
	}
}

// ended: the reading is over, with this result.
func ended(t *testing.T, what string, a *audit.Auditor, e api.Errno) {
	t.Helper()
	want(t, what+": Result", a.Result(), e)
	if len(a.Wants()) != 0 {
		t.Errorf("%s: has ended and wants %q", what, targetsIn(a.Wants()))
	}
}

// hasRead: just this, and it fits together.
func hasRead(t *testing.T, what string, a *audit.Auditor, l *logbook, n int) {
	t.Helper()
	if got, want := told(a), toldOf(l.head(n), l.noteOf(n), l.records[:n]); got != want {
		t.Errorf("%s: tells\n%.3000s; want\n%.3000s", what, got, want)
	}
}

// noteOf: what Note tells of one who has read n records.
func (l *logbook) noteOf(n int) string {
	if n == 0 {
		return ""
	}
	return l.note(n)
}

// told: all that an auditor tells of what was read.
func told(a *audit.Auditor) string {
	var out strings.Builder
	h := a.Head()
	fmt.Fprintf(&out, "%+v\n%q\n%q\n", h, a.Note(), a.Save())
	for id := int64(-1); id <= h.Size; id++ {
		r, e := a.Record(id)
		fmt.Fprintf(&out, "%d %q %d\n", id, r, int(e))
	}
	for i := range keysAsked {
		fmt.Fprintln(&out, keyOf(i), a.Find(keyOf(i)))
	}
	fmt.Fprintln(&out, a.Repeats())
	return out.String()
}

const keysAsked = 40 // of told

// toldOf: the same by the chapter's words, of a head, its note and its records.
func toldOf(h note.Head, message string, records []string) string {
	var out strings.Builder
	fmt.Fprintf(&out, "%+v\n%q\n%q\n", h, message, stateOf(message, records...))
	fmt.Fprintf(&out, "-1 \"\" %d\n", int(api.ErrArg))
	for id, r := range records {
		fmt.Fprintf(&out, "%d %q 0\n", id, r)
	}
	fmt.Fprintf(&out, "%d \"\" %d\n", len(records), int(api.ErrArg))
	for i := range keysAsked {
		fmt.Fprintln(&out, keyOf(i), idsOf(records, keyOf(i)))
	}
	fmt.Fprintln(&out, repeatsOf(records))
	return out.String()
}

// keyIn: of a record, as its first line has it.
func keyIn(record string) string {
	path, rest, _ := strings.Cut(record, " ")
	version, _, _ := strings.Cut(rest, " ")
	return path + "@" + version
}

func idsOf(records []string, key string) []int64 {
	var ids []int64
	for i, r := range records {
		if keyIn(r) == key {
			ids = append(ids, int64(i))
		}
	}
	return ids
}

func repeatsOf(records []string) []audit.Repeat {
	var out []audit.Repeat
	for j, r := range records {
		for i, ahead := range records[:j] {
			if keyIn(ahead) == keyIn(r) {
				out = append(out, audit.Repeat{Key: keyIn(r), I: int64(i), J: int64(j)})
				break
			}
		}
	}
	return out
}

// factOf: what a session lays down of record i in the tree of the first n.
func (l *logbook) factOf(i, n int) client.Fact {
	path, version, _ := strings.Cut(keyIn(l.records[i]), "@")
	return client.Fact{Kind: client.Accepted, Path: path, Version: version, Id: int64(i), Record: l.records[i], Head: l.head(n), Proof: proofOf(l.k, l.records[:n], i)}
}

// longRecord: of any key.
func longRecord(path, version string) string {
	r, e := modver.Record(path, version, [32]byte{}, [32]byte{1})
	if e != api.OK {
		panic(e)
	}
	return r
}
