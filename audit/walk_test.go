package audit_test

import (
	"fmt"
	"math/rand"
	"slices"
	"strings"
	"testing"

	"ledger/api"
	"ledger/client"
	"ledger/modver"
	"ledger/note"
	"ledger/web"
)

// walk: a long run of calls, with answers of several logs, spoilt or not, and states that are taken up again.
type walk struct {
	*pair
	r    *rand.Rand
	most int        // records of the logs
	logs []*logbook // the first is the one that most answers are of
	seen map[api.Errno]int
	held map[api.Errno]int
}

// someRecords: of which some keys stand twice or more.
func someRecords(r *rand.Rand, n int) []string {
	var out []string
	for i := range n {
		switch r.Intn(6) {
		case 0:
			out = append(out, rec(r.Intn(i+1), byte(r.Intn(3))))
		case 1:
			out = append(out, rec(r.Intn(5)))
		default:
			out = append(out, rec(i))
		}
	}
	return out
}

func newWalk(t *testing.T, seed int64, k, h, most int) *walk {
	r := rand.New(rand.NewSource(seed))
	stranger, _ := keysOf(origin, 2)
	main := newLog(k, h, someRecords(r, most)...)
	fork := func(parts int) *logbook {
		return newLog(k, h, append(slices.Clone(main.records[:parts]), recs(parts, most, 5)...)...)
	}
	logs := []*logbook{main, fork(most / 7), fork(most / 2), fork(most - 2), main.signedBy(stranger, origin), main.signedBy(main.signer, "other"), newLog(k+9, h, main.records...)}
	return &walk{pair: newPair(t, configOf(k, h)), r: r, most: most, logs: logs, seen: map[api.Errno]int{}, held: map[api.Errno]int{}}
}

// log: mostly the first.
func (w *walk) log() *logbook {
	if w.r.Intn(12) > 0 {
		return w.logs[0]
	}
	return w.logs[w.r.Intn(len(w.logs))]
}

// spoilt: bytes that are no longer what they were, or are.
func (w *walk) spoilt(b []byte, rarely int) []byte {
	if len(b) == 0 || w.r.Intn(rarely) > 0 {
		return b
	}
	b = slices.Clone(b)
	at := w.r.Intn(len(b))
	switch w.r.Intn(6) {
	case 0:
		b[at] ^= 1 << w.r.Intn(8)
	case 1:
		b = b[:at]
	case 2:
		b = append(b, b[at:]...)
	case 3:
		b = slices.Delete(b, at, at+1)
	case 4:
		b = slices.Insert(b, at, byte(w.r.Intn(256)))
	case 5:
		b[len(b)-1-w.r.Intn(min(len(b), 40))] ^= 1
	}
	return b
}

// size: of a head, not far from what was read.
func (w *walk) size() int {
	return min(max(int(w.a.Head().Size)+w.r.Intn(w.most/3)-w.most/10, 0), w.most)
}

// message: a signed head, or what is none.
func (w *walk) message(l *logbook) string {
	switch w.r.Intn(30) {
	case 0:
		return signText([]string{"x\n", "\n", origin + "\n1\n", origin + "\n0\nAAAAAAAAAAAAAAAAAAAAAAAAAAAAAAAAAAAAAAAAAAA=\n"}[w.r.Intn(4)], l.signer)
	case 1:
		return signHead(note.Head{Origin: l.origin, Size: 65537 + int64(w.r.Intn(2))<<40, Root: l.head(w.most).Root}, l.signer)
	case 2:
		other, _ := keysOf("other", 9)
		return signHead(l.head(w.size()), other, l.signer)
	}
	return l.note(w.size())
}

// data: a tile of the log, of which a record may be another one, or none.
func (w *walk) data(body string, width, rarely int) string {
	if w.r.Intn(rarely) > 0 {
		return body
	}
	records := cut(body, width)
	at := w.r.Intn(len(records))
	switch w.r.Intn(6) {
	case 0:
		records[at] = rec(w.r.Intn(w.most), 77)
	case 1:
		records[at] = strings.Replace(records[at], "h1:", "h2:", 1)
	case 2:
		records[at] = strings.ReplaceAll(records[at], "m.example", "M.example")
	case 3:
		records[at] = strings.ReplaceAll(records[at], "v1.0.0", "v2.0.0")
	case 4:
		records = append(records, records[at])
	case 5:
		records[at] += " "
	}
	return lengthened(records...)
}

// answer: to a request, of some log as of some size, in some form; or none. With more requests at once each is spoilt more rarely.
func (w *walk) answer(request []byte, asked int) []byte {
	target, l := targetOf(request), w.log()
	if asked > 8 && w.r.Intn(asked) > 0 {
		l = w.logs[0]
	}
	status, body := l.tell(target, w.most)
	if target == "/latest" {
		body = w.message(l)
	} else if status == 200 {
		body = w.data(body, widthOf(target, l.h), 8*asked)
	}
	body = string(w.spoilt([]byte(body), 24*asked))
	switch w.r.Intn(12 * asked) {
	case 0:
		return nil
	case 1:
		chunks, _ := web.Chunked([]byte(body), 1+w.r.Intn(100))
		return w.spoilt([]byte(fmt.Sprintf("HTTP/1.1 %d x\r\nTransfer-Encoding: chunked\r\n\r\n%s", status, chunks)), 8)
	case 2:
		return []byte(fmt.Sprintf("HTTP/1.0 %d x\n\n%s", status, body))
	case 3:
		return answerOf([]int{201, 404, 500}[w.r.Intn(3)], body)
	case 4:
		return append(ok(body), strings.Repeat("x", limit)...)
	}
	return w.spoilt(answerOf(status, body), 20*asked)
}

// widthOf: of the tile that a target names.
func widthOf(target string, h int) int {
	w := 1 << h
	if _, width, isPart := strings.Cut(target, ".p/"); isPart {
		fmt.Sscan(width, &w)
	}
	return w
}

// fact: of some log, mostly as a session lays it down.
func (w *walk) fact() client.Fact {
	l := w.log()
	n := 1 + w.r.Intn(w.most)
	f := l.factOf(w.r.Intn(n), n)
	switch w.r.Intn(20) {
	case 0:
		f.Kind = w.r.Intn(5) - 1
	case 1:
		f.Id += int64(w.r.Intn(7) - 3)
	case 2:
		f.Head.Size += int64(w.r.Intn(7) - 3)
	case 3:
		f.Record = rec(w.r.Intn(w.most), byte(w.r.Intn(256)))
		f.Path, f.Version, _, _, _ = modver.ParseRecord(f.Record)
	case 4:
		f.Path += "x"
	case 5:
		f.Version += "x"
	case 6:
		f.Head.Root[w.r.Intn(32)] ^= 1
	case 7:
		f.Proof = append(f.Proof, api.Hash{})
	case 8:
		f.Proof = f.Proof[:len(f.Proof)/2]
	case 9:
		f.Record = string(w.spoilt([]byte(f.Record), 1))
	case 10:
		f.Old, f.Note, f.Head.Origin = f.Head, []byte("x"), "x"
	}
	return f
}

// collides: a record of the same key and leaf hash in the place of the fact's, which a weak strength lets find.
func (w *walk) collides(f client.Fact) client.Fact {
	for i := range 3000 {
		sum := [32]byte{byte(i), byte(i >> 8), 99}
		if r, e := modver.Record(f.Path, f.Version, sum, sum); e == api.OK && leafOf(w.conf.Strength, r) == leafOf(w.conf.Strength, f.Record) {
			f.Record = r
			break
		}
	}
	return f
}

// others: what is done beside the reading.
func (w *walk) others() {
	w.held[w.Holds(w.fact())]++
	if w.conf.Strength == 1 && w.r.Intn(8) == 0 {
		w.held[w.Holds(w.collides(w.fact()))]++
	}
	switch w.r.Intn(20) {
	case 0:
		want(w.t, "Load of Save", w.Load(string(w.a.Save())), api.OK)
	case 1:
		w.Load(string(w.spoilt(w.a.Save(), 1)))
	case 2:
		w.Load(w.log().saved(w.size()))
	}
}

func (w *walk) step() {
	w.others()
	size := w.a.Head().Size
	do := w.r.Intn(40)
	switch {
	case len(w.Wants()) > 0 && do < 38:
		var answers [][]byte
		for _, x := range w.Wants() {
			answers = append(answers, w.answer(x, len(w.Wants())))
		}
		if w.r.Intn(30) == 0 {
			answers = append(answers, nil)
		}
		w.Give(answers)
	case do < 36:
		w.Read()
	case do == 36:
		w.Give(make([][]byte, w.r.Intn(3)))
	default:
		w.Quit()
	}
	w.seen[w.a.Result()]++
	if w.a.Head().Size < size {
		w.t.Errorf("what was read fell from %d to %d", size, w.a.Head().Size)
	}
	w.fits()
}

// fits: P22.1, whatever was answered: the note opens under the verifier, and its head is that of the records.
func (w *walk) fits() {
	w.t.Helper()
	h := w.a.Head()
	var records []string
	for id := range h.Size {
		r, _ := w.a.Record(id)
		records = append(records, r)
	}
	if h.Root != rootOf(w.conf.Strength, records) || h.Origin != origin {
		w.t.Fatalf("Head = %+v is not that of the records", h)
	}
	if h.Size == 0 {
		return
	}
	n, e := note.Open(w.a.Note(), []string{w.conf.Verifier})
	if in, f := note.ParseHead(n.Text); e != api.OK || f != api.OK || in != h {
		w.t.Fatalf("the note carries %+v, %d; want %+v", in, int(e), h)
	}
}

func TestWalks(t *testing.T) { // P22.1 to P22.5, P0.1: whatever is given: as the chapter's words tell it
	t.Parallel()
	seen, held := map[api.Errno]int{}, map[api.Errno]int{}
	for seed := range int64(120) {
		most := []int{10, 30, 30, 70, 300}[seed%5]
		w := newWalk(t, seed, []int{0, 32, -1, 1, 2, 1, 20}[seed%7], []int{1, 2, 3, 8}[seed%4], most)
		for range 3000 / most {
			w.step()
		}
		for e, n := range w.seen {
			seen[e] += n
		}
		for e, n := range w.held {
			held[e] += n
		}
	}
	for _, e := range []api.Errno{api.OK, api.ErrState, api.ErrLong, api.ErrNote, api.ErrSignature, api.ErrUnsigned, api.ErrHead, api.ErrOrigin, api.ErrFork, api.ErrResponse, api.ErrRefused, api.ErrBody, api.ErrRecord, api.ErrModPath, api.ErrVersion, api.ErrSum, api.ErrAuth, api.ErrTimeout} {
		if seen[e] < 5 {
			t.Errorf("the walks have met %d no more than %d times", int(e), seen[e])
		}
	}
	for _, e := range []api.Errno{api.OK, api.ErrArg, api.ErrTranscript, api.ErrNothing, api.ErrInclusion} {
		if held[e] < 5 {
			t.Errorf("Holds has answered %d no more than %d times", int(e), held[e])
		}
	}
}
