package witness_test

import (
	"math/rand"
	"slices"
	"testing"

	"ledger/api"
	"ledger/note"
	"ledger/witness"
)

// walker: a pair that is asked anything, and the history of each of its logs.
type walker struct {
	*pair
	r        *rand.Rand
	branches []branch
	lives    map[string]*history
	met      map[api.Errno]int
}

func newWalker(t *testing.T, seed int64, met map[api.Errno]int) *walker {
	r := rand.New(rand.NewSource(seed))
	size := int64(room)
	if r.Intn(4) == 0 {
		size = int64(100 + r.Intn(400))
	}
	w := &walker{pair: newPair(t, configOf(origin, "log.other", "é"), size), r: r, lives: map[string]*history{}, met: met}
	for i, l := range w.c.Logs {
		w.lives[l.Origin] = newHistory(t)
		for range 3 {
			from := r.Intn(grown)
			w.branches = append(w.branches, newBranch(strict, l.Origin, byte(logKey+i), from, byte(from)))
		}
	}
	w.branches = append(w.branches, newBranch(strict, "else", logKey, grown, 0), newBranch(1, origin, logKey, grown, 0))
	return w
}

// rarely: once in n times.
func (w *walker) rarely(n int) bool { return w.r.Intn(n) == 0 }

// head: of a branch, mostly signed as it should be.
func (w *walker) head(b branch, n int64) []byte {
	h := b.head(n)
	m := b.signed(n)
	switch w.r.Intn(24) {
	case 0:
		m = signedBy(h, strangerKey)
	case 1:
		m = spoilt(m, 0)
	case 2:
		m = signedBy(h, strangerKey, witnessKey, b.seed)
	case 3:
		h.Root[5] ^= 1
		m = signedBy(h, b.seed)
	case 4:
		m = m[:w.r.Intn(len(m))]
	case 5:
		m = signText("x\n"+textOf(h), b.seed)
	case 6:
		if b.seed == logKey {
			m = withLines(h, 16, w.rarely(2))
		}
	}
	return m
}

// step: one ask, by Cosign or by Answer.
func (w *walker) step() {
	w.t.Helper()
	b := w.branches[w.r.Intn(len(w.branches))]
	last := w.b.last[b.origin]
	n := last.Size + int64(w.r.Intn(4))
	if w.rarely(5) {
		n = int64(w.r.Intn(grown + 1))
	}
	n = min(n, grown)
	old, path := last.Size, b.path(last.Size, n)
	if w.rarely(8) {
		old += int64(w.r.Intn(5) - 2)
	}
	if w.rarely(8) {
		path = someHashes(w.r.Intn(3))
	}
	if w.rarely(12) && len(path) > 0 {
		path = turned(path, w.r.Intn(len(path)))
	}
	head := w.head(b, n)
	if w.rarely(3) && old >= 0 {
		if ask, e := witness.FormatAsk(old, path, head); e == api.OK {
			w.heard(last, head, w.answered(ask))
		}
		return
	}
	w.heard(last, head, w.cosign(head, old, path))
}

// answered: of what Answer's status is, as far as the history asks for it.
func (w *walker) answered(ask []byte) api.Errno {
	switch w.answer(ask) {
	case 200:
		return api.OK
	case 500:
		return api.ErrIO
	}
	return api.ErrAsk
}

func (w *walker) heard(last note.Head, head []byte, e api.Errno) {
	w.t.Helper()
	w.met[e]++
	if e == api.OK || isFault(e) {
		w.lives[last.Origin].hear(last, headIn(w.t, head), head, e)
	}
}

// recover: opened anew, behind a crash or without one; every log's head is one that may be found.
func (w *walker) recover() {
	w.t.Helper()
	if w.w == nil || w.rarely(2) {
		w.pair.crash(w.choices())
	}
	if w.open("w") == api.ErrDead {
		w.pair.crash(w.choices())
		w.open("w")
	}
	if w.w == nil {
		return
	}
	for o, l := range w.lives {
		h, _ := w.w.Head(o)
		l.judge(h)
	}
}

func (w *walker) choices() []int {
	var out []int
	for range w.r.Intn(6) {
		out = append(out, w.r.Intn(200)-20)
	}
	return out
}

func TestLongLives(t *testing.T) { // P21.1 to P21.4, P21.7, P21.8, P0.1: any asks, faults, crashes and openings, against the book; room that runs out
	met := map[api.Errno]int{}
	for seed := range 300 {
		w := newWalker(t, int64(seed), met)
		for range 80 {
			if w.rarely(6) {
				w.fail(w.r.Intn(14), faults()[w.r.Intn(3)])
			}
			if w.w == nil || w.rarely(12) {
				w.recover()
			}
			if w.w != nil {
				w.step()
			}
			if t.Failed() {
				t.Fatalf("seed %d", seed)
			}
		}
	}
	for _, e := range []api.Errno{api.OK, api.ErrNote, api.ErrHead, api.ErrOrigin, api.ErrSignature, api.ErrUnsigned, api.ErrArg, api.ErrConflict, api.ErrProofLength, api.ErrProof, api.ErrLong, api.ErrIO, api.ErrFull, api.ErrDead} {
		if met[e] < 20 {
			t.Errorf("%d was met %d times", int(e), met[e])
		}
	}
}

func TestLivesOfTwoNames(t *testing.T) { // P21.8: two witnesses by turns on one disk, each as if it were alone, but for the acts' number
	for seed := range 60 {
		r := rand.New(rand.NewSource(int64(seed)))
		pairs := []*pair{newPair(t, config(), room), newPair(t, config(), room)}
		shared := made(t)
		name := [][]string{{"w", "w1"}, {"w1", "w"}, {"a", "b"}, {"0", "00"}}[r.Intn(4)]
		var both [2]*witness.Witness
		for i, p := range pairs {
			p.open(name[i])
			both[i], _ = witness.Open(shared, name[i], config())
		}
		for range 30 {
			i := r.Intn(2)
			p := pairs[i]
			last := p.b.last[origin]
			n := min(last.Size+int64(r.Intn(3)), grown)
			b := []branch{trunk(), parted(5)}[r.Intn(2)]
			if r.Intn(3) == 0 {
				at := 1 + r.Intn(6)
				p.fail(at, api.ErrIO)
				shared.Fail(at, api.ErrIO)
			}
			e := p.cosign(b.signed(n), last.Size, b.path(last.Size, n))
			m, f := both[i].Cosign(b.signed(n), last.Size, b.path(last.Size, n))
			if e != f || e == api.OK && headIn(t, m) != b.head(n) {
				t.Fatalf("seed %d: beside another Cosign = %d; alone %d", seed, int(f), int(e))
			}
			p.fail(0, api.ErrIO)
			shared.Fail(0, api.ErrIO)
			if r.Intn(5) == 0 {
				p.open(name[i])
				both[i], _ = witness.Open(shared, name[i], config())
			}
			h, _ := both[i].Head(origin)
			has(t, "alone", p.w, h)
			files := append(pairs[0].d.Files(), pairs[1].d.Files()...)
			slices.SortFunc(files, byName)
			if told(shared.Files()) != told(files) {
				t.Fatalf("seed %d: the disk of both has\n%s; want\n%s", seed, told(shared.Files()), told(files))
			}
		}
	}
}
