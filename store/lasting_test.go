package store_test

import (
	"math/rand"
	"slices"
	"testing"

	"ledger/api"
	"ledger/disk"
	"ledger/note"
	"ledger/store"
)

// teller: all that the stores of a disk have told, of which P13.12 speaks.
type teller struct {
	t     *testing.T
	c     store.Config
	heads []note.Head
	sure  []string // the records that were answered for
	maybe []string // behind those, the records of the append that failed
}

func (l *teller) hear(s *store.Store) {
	l.t.Helper()
	text, _, _ := note.Split(s.Head())
	h, e := note.ParseHead(text)
	if e != api.OK {
		l.t.Fatalf("Head = %q", s.Head())
	}
	l.heads = append(l.heads, h)
}

// append: of records with new keys.
func (l *teller) append(s *store.Store, records ...string) api.Errno {
	l.t.Helper()
	_, e := s.Append(records)
	if e == api.OK {
		l.sure = append(l.sure, records...)
	} else if e != api.ErrShut {
		l.maybe = records
	}
	l.hear(s)
	return e
}

// reopen: Open answers OK, and its log is one that P13.12 lets be; opening twice gives the same.
func (l *teller) reopen(d *disk.Disk) *store.Store {
	l.t.Helper()
	s, e := store.Open(d, l.c)
	if e != api.OK {
		l.t.Fatalf("Open = %d behind a crash; the disk has %s", int(e), names(d))
	}
	l.judge(s)
	files, acts := told(d.Files()), d.Acts()
	again, e := store.Open(d, l.c)
	if e != api.OK || again.Size() != s.Size() || string(again.Head()) != string(s.Head()) || told(d.Files()) != files || d.Acts() != acts+1 || d.Pending() != 0 {
		l.t.Fatalf("the second Open = %d, size %d, %d acts", int(e), again.Size(), d.Acts()-acts)
	}
	if files != told(filesOf(l.c, l.sure)) {
		l.t.Fatalf("Open leaves %s", names(d))
	}
	return again
}

func (l *teller) judge(s *store.Store) {
	l.t.Helper()
	if s.Size() == int64(len(l.sure)+len(l.maybe)) {
		l.sure = slices.Concat(l.sure, l.maybe)
	}
	l.maybe = nil
	isLog(l.t, "behind a crash", s, l.c, l.sure)
	l.hear(s)
	for _, h := range l.heads {
		if h.Size > s.Size() || h.Root != rootOf(l.c.Strength, l.sure[:h.Size]) {
			l.t.Fatalf("a head of size %d was told, and the log has %d records", h.Size, s.Size())
		}
	}
}

// fork: one that hears on by itself.
func (l *teller) fork() *teller {
	other := *l
	other.heads, other.sure, other.maybe = slices.Clone(l.heads), slices.Clone(l.sure), slices.Clone(l.maybe)
	return &other
}

func (l *teller) begin() (*disk.Disk, *store.Store) {
	l.t.Helper()
	d, s := begun(l.t, l.c)
	l.hear(s)
	return d, s
}

// crashes: one for every number of names' acts that last, with some of each loose write's bytes.
func crashes(d *disk.Disk) [][]int {
	var out [][]int
	for n := range d.Pending() + 1 {
		for _, part := range []int{0, 3, -1} {
			out = append(out, []int{n, part, part, part, part, part})
		}
	}
	return out
}

func TestEveryCrashOfAnAppend(t *testing.T) { // P13.12: at every act, by every fault, whatever a crash leaves; and on from there
	t.Parallel()
	for _, h := range []int{1, 2} {
		for n := 1; n <= 30; n++ {
			for _, fault := range []api.Errno{api.ErrIO, api.ErrFull, api.ErrDead} {
				l := &teller{t: t, c: config(h)}
				d, s := l.begin()
				l.append(s, recs(0, 1)...)
				l.append(s, recs(1, 3)...)
				d.Fail(n, fault)
				l.append(s, recs(3, 6)...)
				for _, choices := range crashes(d) {
					m := l.fork()
					g := d.Crash(choices)
					u := m.reopen(g)
					m.append(u, recs(10, 12)...)
					m.reopen(g.Crash([]int{len(choices)}))
				}
			}
		}
	}
}

func TestEveryCrashOfARecovery(t *testing.T) { // P13.12: at every act of Open too, on a disk that runs on or has crashed
	t.Parallel()
	for n := 1; n <= 26; n++ {
		l := &teller{t: t, c: config(1)}
		d, s := l.begin()
		l.append(s, recs(0, 1)...)
		l.append(s, recs(1, 3)...)
		d.Fail(n, api.ErrDead)
		l.append(s, recs(3, 5)...)
		for _, choices := range crashes(d) {
			for at := 1; at <= 9; at++ {
				for _, fault := range []api.Errno{api.ErrIO, api.ErrDead} {
					m := l.fork()
					g := d.Crash(choices)
					g.Fail(at, fault)
					if u, e := store.Open(g, m.c); e == api.OK {
						m.judge(u)
						m.append(u, rec(20))
					}
					m.reopen(g.Crash([]int{at, 1}))
				}
			}
		}
	}
}

func TestCrashesOnARunningDisk(t *testing.T) { // P13.12: opened anew without a crash; what Open told stays behind every crash
	for n := 1; n <= 26; n++ {
		for _, fault := range []api.Errno{api.ErrIO, api.ErrFull} {
			l := &teller{t: t, c: config(1)}
			d, s := l.begin()
			l.append(s, recs(0, 3)...)
			d.Fail(n, fault)
			l.append(s, recs(3, 6)...)
			d.Fail(0, fault)
			u := l.reopen(d)
			for _, choices := range [][]int{nil, {1}, {-1, -1}} {
				l.fork().reopen(d.Crash(choices))
			}
			l.hear(u)
		}
	}
}

func TestEveryCrashOfCreate(t *testing.T) { // P13.2, P13.12: no log, or one without records; once it was answered with OK there is one
	c := config(1)
	for n := 1; n <= 7; n++ {
		d := made(t, room)
		d.Fail(n, api.ErrDead)
		_, e := store.Create(d, c)
		for _, choices := range crashes(d) {
			g := d.Crash(choices)
			s, f := store.Open(g, c)
			switch {
			case f == api.OK:
				isLog(t, "behind a crash", s, c, nil)
			case f != api.ErrNoLog || e == api.OK:
				t.Errorf("Create = %d at act %d; then Open = %d behind a crash of %v", int(e), n, int(f), choices)
			default:
				if _, e := store.Create(g, c); e != api.OK {
					t.Errorf("Create behind a crash = %d", int(e))
				}
			}
		}
	}
}

func anyChoices(r *rand.Rand) []int {
	var out []int
	for range r.Intn(6) {
		out = append(out, r.Intn(40)-5)
	}
	return out
}

func TestLongLives(t *testing.T) { // P13.2 to P13.6, P13.12, P0.1: any appends, faults, crashes and openings, against the twin; room that runs out
	t.Parallel()
	logs, shut := 0, 0
	for seed := range 150 {
		r := rand.New(rand.NewSource(int64(seed)))
		size := int64(room)
		if r.Intn(3) == 0 {
			size = int64(600 + r.Intn(6000))
		}
		p := newPair(t, config(1+r.Intn(3)), size)
		l := &teller{t: t, c: p.c}
		p.create()
		next := 0
		for i := range 25 {
			if r.Intn(3) == 0 {
				p.fail(r.Intn(40), []api.Errno{api.ErrIO, api.ErrFull, api.ErrDead}[r.Intn(3)])
			}
			if p.s == nil || r.Intn(4) == 0 {
				if r.Intn(2) == 0 {
					p.crash(anyChoices(r))
				}
				if p.open() == api.ErrDead {
					p.crash(anyChoices(r))
					p.open()
				}
				if p.s == nil || p.shut {
					continue
				}
				l.judge(p.s)
				logs++
			}
			more := recs(next, next+1+r.Intn(3))
			next += len(more)
			was := p.shut
			if e := p.append(append(more, p.log...)...); e == api.OK {
				l.sure = append(l.sure, more...)
			} else if !was {
				l.maybe = more
				shut++
			}
			if t.Failed() {
				t.Fatalf("seed %d, step %d", seed, i)
			}
		}
	}
	if logs < 500 || shut < 300 {
		t.Errorf("%d logs were opened, %d were shut", logs, shut)
	}
}
