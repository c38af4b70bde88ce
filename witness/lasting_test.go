package witness_test

import (
	"maps"
	"slices"
	"testing"

	"ledger/api"
	"ledger/disk"
	"ledger/note"
	"ledger/witness"
)

// history: what was asked of the witnesses of one name for one origin, and what they answered, of which P21.7 speaks.
type history struct {
	t        *testing.T
	answered []note.Head
	failed   []note.Head               // whose asks ended with an error of the disk
	steps    map[note.Head][]note.Head // from a last head to those of another size which a proof led to that checked
}

func newHistory(t *testing.T) *history {
	return &history{t: t, steps: map[note.Head][]note.Head{}}
}

// fork: so that several crashes can be gone on from.
func (l *history) fork() *history {
	m := &history{t: l.t, answered: slices.Clone(l.answered), failed: slices.Clone(l.failed), steps: maps.Clone(l.steps)}
	for from, to := range m.steps {
		m.steps[from] = slices.Clone(to)
	}
	return m
}

func isFault(e api.Errno) bool { return slices.Contains(faults(), e) }

// hear: the witness, whose last head was this one, was asked for that one and answered so.
func (l *history) hear(last, asked note.Head, message []byte, e api.Errno) {
	l.t.Helper()
	if e != api.OK && !isFault(e) {
		return
	}
	if asked.Size != last.Size {
		l.steps[last] = append(l.steps[last], asked)
	}
	if isFault(e) {
		l.failed = append(l.failed, asked)
		return
	}
	if h := headIn(l.t, message); h != asked {
		l.t.Fatalf("asked for %+v, it answers %+v", asked, h)
	}
	if len(l.answered) > 0 {
		l.follow(l.answered[len(l.answered)-1], asked)
	}
	l.answered = append(l.answered, asked)
}

// follow: may this note be answered as the next one behind that?
func (l *history) follow(a, b note.Head) {
	l.t.Helper()
	switch {
	case b.Size < a.Size:
		l.t.Fatalf("behind size %d it answers size %d", a.Size, b.Size)
	case b.Size == a.Size && b.Root != a.Root:
		l.t.Fatalf("two roots of size %d", a.Size)
	case b.Size > a.Size && a.Size > 0 && !l.leads(a, b):
		l.t.Fatalf("no proofs lead from %+v to %+v", a, b)
	}
}

// leads: by one proof, or by several over heads whose asks failed.
func (l *history) leads(from, to note.Head) bool {
	for _, next := range l.steps[from] {
		if next == to || slices.Contains(l.failed, next) && l.leads(next, to) {
			return true
		}
	}
	return false
}

// ask: for the branch's head of n records, with the proof from the last head's size on.
func (l *history) ask(w *witness.Witness, b branch, n int64) api.Errno {
	l.t.Helper()
	last, _ := w.Head(b.origin)
	m, e := w.Cosign(b.signed(n), last.Size, b.path(last.Size, n))
	l.hear(last, b.head(n), m, e)
	return e
}

// judge: is the last head one that a recovery may find?
func (l *history) judge(found note.Head) {
	l.t.Helper()
	last := note.Head{Origin: found.Origin, Root: trunk().root(0)}
	if n := len(l.answered); n > 0 {
		last = l.answered[n-1]
	}
	if found != last && (found.Size <= last.Size || !slices.Contains(l.failed, found)) {
		l.t.Fatalf("recovered: %+v; answered last: %+v; failed: %+v", found, last, l.failed)
	}
}

// reopen: Open answers OK, and what it tells lasts.
func (l *history) reopen(d *disk.Disk) *witness.Witness {
	l.t.Helper()
	w, e := witness.Open(d, "w", config())
	if e != api.OK {
		l.t.Fatalf("Open = %d; the disk has %s", int(e), names(d))
	}
	h, _ := w.Head(origin)
	l.judge(h)
	if d.Pending() != 0 {
		l.t.Fatalf("behind Open %d acts are pending", d.Pending())
	}
	return w
}

// crashes: of this disk: how many names' acts last, and how much of what was written.
func crashes(d *disk.Disk) [][]int {
	var out [][]int
	for n := range d.Pending() + 1 {
		for _, part := range []int{0, 3, -1} {
			out = append(out, []int{n, part, part, part, part})
		}
	}
	return out
}

// goOn: asks for heads of both branches, in all of which some are refused, and crashes once more.
func (l *history) goOn(d *disk.Disk, w *witness.Witness, branches ...branch) {
	l.t.Helper()
	for _, n := range []int64{1, 5, 7, 9, 12} {
		for _, b := range branches {
			l.ask(w, b, n)
		}
	}
	h, _ := w.Head(origin)
	for _, choices := range [][]int{nil, {1}, {-1, -1}} {
		u := l.fork().reopen(d.Crash(choices))
		has(l.t, "nothing is lost that was answered", u, h)
	}
}

func TestEveryCrashOfACosign(t *testing.T) { // P21.7: at every act, by every fault, whatever a crash leaves; and on from there, to either branch
	a, b := trunk(), parted(4)
	for _, m := range []int64{0, 3, 4} {
		for n := 1; n <= 6; n++ {
			for _, fault := range faults() {
				for _, again := range []bool{false, true} {
					l := newHistory(t)
					d := made(t)
					w := l.reopen(d)
					l.ask(w, a, m)
					d.Fail(n, fault)
					l.ask(w, a, 9)
					if again {
						l.ask(w, a, m) // answered without an act
					}
					for _, choices := range crashes(d) {
						f := l.fork()
						g := d.Crash(choices)
						f.goOn(g, f.reopen(g), b, a)
					}
				}
			}
		}
	}
}

func TestCrashesBehindTwoFaults(t *testing.T) { // P21.7: heads that part, none of which was answered; the disk may have either
	a, b := trunk(), parted(4)
	found := map[int64]int{}
	for _, sizes := range [][2]int64{{9, 7}, {7, 9}, {7, 7}} {
		for n := 1; n <= 5; n++ {
			for k := 1; k <= 6; k++ {
				l := newHistory(t)
				d := made(t)
				w := l.reopen(d)
				l.ask(w, a, 3)
				d.Fail(n, api.ErrIO)
				l.ask(w, a, sizes[0])
				d.Fail(k, api.ErrDead)
				l.ask(w, b, sizes[1])
				for _, choices := range crashes(d) {
					f := l.fork()
					g := d.Crash(choices)
					u := f.reopen(g)
					h, _ := u.Head(origin)
					found[h.Size]++
					f.goOn(g, u, a, b)
				}
			}
		}
	}
	if found[3] < 20 || found[7] < 20 || found[9] < 20 {
		t.Errorf("recoveries by their sizes: %v", found)
	}
}

func TestOpenedAnewWithoutACrash(t *testing.T) { // P21.7: what Open finds unsynced it syncs, so that it lasts
	a, b := trunk(), parted(4)
	for n := 1; n <= 5; n++ {
		for _, fault := range []api.Errno{api.ErrIO, api.ErrFull} {
			l := newHistory(t)
			d := made(t)
			w := l.reopen(d)
			l.ask(w, a, 3)
			d.Fail(n, fault)
			l.ask(w, a, 9)
			w = l.reopen(d)
			h, _ := w.Head(origin)
			if n == 5 && h != a.head(9) || n < 5 && h != a.head(3) {
				t.Errorf("act %d: Head = %+v", n, h)
			}
			l.goOn(d, w, b, a)
		}
	}
}

func TestEveryCrashOfAnOpen(t *testing.T) { // P21.7: a fault at each act of Open, then a crash, and Open again
	a, b := trunk(), parted(4)
	for n := 1; n <= 5; n++ {
		for at := 1; at <= 3; at++ {
			for _, fault := range faults() {
				l := newHistory(t)
				d := made(t)
				w := l.reopen(d)
				l.ask(w, a, 3)
				d.Fail(n, api.ErrIO)
				l.ask(w, a, 9)
				d.Fail(at, fault)
				if w, e := witness.Open(d, "w", config()); e == api.OK {
					h, _ := w.Head(origin)
					l.judge(h)
					l.ask(w, b, 11)
				}
				for _, choices := range crashes(d) {
					f := l.fork()
					g := d.Crash(choices)
					f.goOn(g, f.reopen(g), b, a)
				}
			}
		}
	}
}

func TestNoTwoHeadsThatPart(t *testing.T) { // P21.7: of all notes that were ever answered the greater one's tree holds the smaller one's
	branches := []branch{trunk(), parted(1), parted(2), parted(6), parted(11)}
	for first := range branches {
		d, w := begun(t)
		l := newHistory(t)
		of := map[note.Head]branch{}
		for n := int64(1); n <= grown; n++ {
			for i := range branches {
				b := branches[(first+i)%len(branches)]
				of[b.head(n)] = b
				if n%5 == int64(i) {
					d.Fail(1+i, api.ErrIO)
				}
				l.ask(w, b, n)
			}
			if n%7 == 0 {
				d = d.Crash([]int{int(n), 1})
				w = l.reopen(d)
			}
		}
		if len(l.answered) < 8 {
			t.Errorf("%d notes", len(l.answered))
		}
		for i, h := range l.answered {
			for _, g := range l.answered[:i] {
				if of[h].root(g.Size) != g.Root {
					t.Fatalf("sizes %d and %d part", g.Size, h.Size)
				}
			}
		}
	}
}
