package client_test

import (
	"fmt"
	"math/rand"
	"slices"
	"strings"
	"testing"

	"ledger/api"
	"ledger/cache"
	"ledger/client"
	"ledger/disk"
	"ledger/web"
)

const most = 30 // records of a walk's logs

// walk: a long run of calls, on files that others spoil and a disk that fails, with answers of several logs, spoilt or not.
type walk struct {
	*pair
	r     *rand.Rand
	books []*book // the first is the log that most answers are of
	seen  map[api.Errno]int
}

func newWalk(t *testing.T, seed int64, k, h int) *walk {
	r := rand.New(rand.NewSource(seed))
	stranger, _ := keysOf(origin, 2)
	main := newBook(k, h, recs(0, most)...)
	fork := func(parts int) *book {
		return newBook(k, h, append(recs(0, parts), recs(parts, most, 5)...)...)
	}
	books := []*book{main, fork(4), fork(17), main.signedBy(stranger, origin), main.signedBy(main.signer, "other"), newBook(k+9, h, main.records...)}
	return &walk{pair: newPair(t, configOf(k, h), r.Intn(12)), r: r, books: books, seen: map[api.Errno]int{}}
}

// book: mostly the first.
func (w *walk) book() *book {
	if w.r.Intn(8) > 0 {
		return w.books[0]
	}
	return w.books[w.r.Intn(len(w.books))]
}

// spoilt: bytes that are no longer what they were, or are.
func (w *walk) spoilt(b []byte) []byte {
	if len(b) == 0 || w.r.Intn(12) > 0 {
		return b
	}
	b = slices.Clone(b)
	at := w.r.Intn(len(b))
	switch w.r.Intn(6) {
	case 0:
		b[at] ^= 1 << w.r.Intn(8)
	case 1:
		b = b[:at]
	case 2:
		b = append(b, b[at:]...)
	case 3:
		b = slices.Delete(b, at, at+1)
	case 4:
		b = slices.Insert(b, at, byte(w.r.Intn(256)))
	case 5:
		b[len(b)-1-w.r.Intn(min(len(b), 40))] ^= 1
	}
	return b
}

// size: of a head, not far from the trusted one.
func (w *walk) size() int { return min(max(int(w.c.Head().Size)+w.r.Intn(9)-4, 0), most) }

// body: of the answer to a lookup that may be of another record or have another id.
func (w *walk) body(b *book, n int, body string) string {
	switch w.r.Intn(20) {
	case 0:
		return b.body(w.r.Intn(most), n)
	case 1:
		_, rest, _ := strings.Cut(body, "\n")
		return fmt.Sprintf("%d\n%s", w.r.Intn(most+5), rest)
	}
	return body
}

// note: a signed head, or what is none.
func (w *walk) note() string {
	b := w.book()
	if w.r.Intn(15) == 0 {
		return signText([]string{"x\n", "\n", origin + "\n1\n", origin + "\n0\nAAAAAAAAAAAAAAAAAAAAAAAAAAAAAAAAAAAAAAAAAAA=\n"}[w.r.Intn(4)], b.signer)
	}
	return string(w.spoilt([]byte(b.note(w.size()))))
}

// answer: to a request, of some log as of some size, in some form; or none.
func (w *walk) answer(request []byte) []byte {
	target, n, b := targetOf(request), w.size(), w.book()
	if strings.HasPrefix(target, "/tile/") {
		n = most
	}
	status, body := b.tell(target, n)
	if status == 200 && strings.HasPrefix(target, "/lookup/") {
		body = w.body(b, n, body)
	}
	body = string(w.spoilt([]byte(body)))
	switch w.r.Intn(12) {
	case 0:
		return nil
	case 1:
		chunks, _ := web.Chunked([]byte(body), 1+w.r.Intn(100))
		return w.spoilt([]byte(fmt.Sprintf("HTTP/1.1 %d x\r\nTransfer-Encoding: chunked\r\n\r\n%s", status, chunks)))
	case 2:
		return []byte(fmt.Sprintf("HTTP/1.0 %d x\n\n%s", status, body))
	}
	return w.spoilt(answerOf(status, body))
}

// others: what happens beside the session.
func (w *walk) others() {
	switch w.r.Intn(40) {
	case 0:
		spoilSome(w.r, w.pair)
	case 1:
		removeSome(w.r, w.pair)
	case 2:
		layTiles(w.r, w.pair, w.book(), most)
	case 3, 4, 5:
		n, e := 1+w.r.Intn(20), []api.Errno{api.ErrIO, api.ErrFull}[w.r.Intn(2)]
		w.disks(func(d *disk.Disk) { d.Fail(n, e) })
	case 6:
		w.another()
	case 7, 8:
		holds(w.t, w.conf, w.begun, w.c.Facts())
		w.disks(func(d *disk.Disk) { d.Fail(0, api.ErrIO) })
		if w.r.Intn(2) == 0 {
			w.crash([]int{w.r.Intn(9), w.r.Intn(99), w.r.Intn(99), w.r.Intn(99)})
		}
		want(w.t, "New", w.open(w.r.Intn(12)), api.OK)
	}
}

// another: a session on the same files.
func (w *walk) another() {
	head := w.books[0].note(w.size())
	for _, d := range []*disk.Disk{w.d, w.twin} {
		f, e := cache.Open(d, "a", 12)
		if e != api.OK {
			continue
		}
		if c, e := client.New(w.conf, f); e == api.OK {
			c.Merge([]byte(head))
			rounds(c, w.books[0], most)
		}
	}
}

func (w *walk) step() {
	w.others()
	size := w.c.Head().Size
	do := w.r.Intn(10)
	switch {
	case len(w.Wants()) > 0 && do < 9:
		var answers [][]byte
		for _, x := range w.Wants() {
			answers = append(answers, w.answer(x))
		}
		if w.r.Intn(20) == 0 {
			answers = append(answers, nil)
		}
		w.Give(answers)
	case do < 4:
		w.Lookup(keyOf(w.r.Intn(1 + w.size())))
	case do < 6:
		w.Latest()
	case do < 9:
		w.Merge(w.note())
	default:
		w.Quit()
	}
	w.seen[w.c.Result().Err]++
	if w.c.Head().Size < size {
		w.t.Errorf("the trusted head fell from %d to %d", size, w.c.Head().Size)
	}
}

func TestWalks(t *testing.T) { // P17.2 to P17.10, P0.1: whatever is given and whatever the files hold: as the chapter's words tell it
	t.Parallel()
	seen := map[api.Errno]int{}
	for seed := range int64(60) {
		w := newWalk(t, seed, []int{0, 0, 0, 1, 2, 20}[seed%6], []int{1, 2, 3, 8}[seed%4])
		for range 200 {
			w.step()
		}
		holds(t, w.conf, w.begun, w.c.Facts())
		for e, n := range w.seen {
			seen[e] += n
		}
	}
	for _, e := range []api.Errno{api.OK, api.ErrState, api.ErrNote, api.ErrSignature, api.ErrUnsigned, api.ErrHead, api.ErrAuth, api.ErrIO, api.ErrFull, api.ErrMoved, api.ErrResponse, api.ErrRefused, api.ErrBody, api.ErrOther, api.ErrIdRange, api.ErrInclusion, api.ErrFork, api.ErrOrigin, api.ErrTimeout} {
		if seen[e] < 5 {
			t.Errorf("the walks have met %d no more than %d times", int(e), seen[e])
		}
	}
}
