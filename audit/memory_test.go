package audit_test

import (
	"bytes"
	"fmt"
	"math/rand"
	"slices"
	"strings"
	"sync"
	"testing"

	"ledger/api"
	"ledger/audit"
	"ledger/client"
)

// roomy: the items with room behind them, which an append would fill, and all of it.
func roomy[T any](items []T, rest ...T) (given, all []T) {
	all = slices.Concat(items, rest)
	return all[:len(items)], all
}

// spoil: overwrites a list and the room behind it.
func spoil[T any](list []T, with T) {
	list = list[:cap(list)]
	for i := range list {
		list[i] = with
	}
}

// deed: what a run of calls is made of, by an auditor as it is or by one that spoils.
type deed interface {
	asker
	Quit() api.Errno
	Result() api.Errno
	Save() []byte
	Note() []byte
	Find(key string) []int64
	Repeats() []audit.Repeat
	Holds(f client.Fact) api.Errno
}

// spoiler: an auditor who is given bytes with room behind them, which are spoilt when they have been given; each answer is spoilt too.
type spoiler struct {
	t *testing.T
	*audit.Auditor
}

func (s *spoiler) Give(responses [][]byte) api.Errno {
	s.t.Helper()
	var list, alls [][]byte
	for _, r := range responses {
		given, all := roomy(r, []byte("rest")...)
		list, alls = append(list, given), append(alls, all)
	}
	given, all := roomy(list, []byte("rest"))
	kept := slices.Clone(all)
	e := s.Auditor.Give(given)
	for i, b := range all {
		if len(b) != len(kept[i]) || len(b) > 0 && &b[0] != &kept[i][0] {
			s.t.Error("the list that was given has changed")
		}
	}
	for i, b := range alls {
		if string(b) != string(responses[i])+"rest" {
			s.t.Errorf("what was given is now %q", b)
		}
		spoil(b, '#')
	}
	spoil(all, nil)
	s.spoilAnswers()
	return e
}

func (s *spoiler) Holds(f client.Fact) api.Errno {
	s.t.Helper()
	way, allWay := roomy(f.Proof, api.Hash{1})
	message, allMessage := roomy(f.Note, 'x')
	before, beforeMessage := slices.Clone(allWay), slices.Clone(allMessage)
	f.Proof, f.Note = way, message
	e := s.Auditor.Holds(f)
	if !slices.Equal(allWay, before) || !slices.Equal(allMessage, beforeMessage) {
		s.t.Error("Holds changes its fact")
	}
	spoil(allWay, api.Hash{7})
	spoil(allMessage, '#')
	return e
}

func answers(a deed) string {
	return fmt.Sprintf("%q %q %q %v %v", a.Note(), a.Save(), a.Wants(), a.Find(keyOf(0)), a.Repeats())
}

// spoilAnswers: two of each are asked; the one is spoilt and the other is not.
func (s *spoiler) spoilAnswers() {
	s.t.Helper()
	before := answers(s)
	message, state, wanted, ids, repeats := s.Note(), s.Save(), s.Wants(), s.Find(keyOf(0)), s.Repeats()
	apart(s.t, append([][]byte{message, state}, wanted...))
	spoil(wanted, nil)
	spoil(ids, -1)
	spoil(repeats, audit.Repeat{Key: "#", I: -1, J: -1})
	if answers(s) != before {
		s.t.Error("answers share memory with what is kept")
	}
}

// apart: no two of them share memory: each is written over in turn, its spare room too, and those behind it are looked at.
func apart(t *testing.T, lists [][]byte) {
	t.Helper()
	var were []string
	for _, b := range lists {
		were = append(were, string(b))
	}
	for i, a := range lists {
		spoil(a, '?')
		for j, b := range lists[i+1:] {
			if string(b) != were[i+1+j] {
				t.Error("two lists of one answer share memory")
			}
		}
	}
}

// run: a life, as it is told.
func run(a deed, l, fork *logbook, seed int64) string {
	var out strings.Builder
	r := rand.New(rand.NewSource(seed))
	for range 25 {
		n := r.Intn(len(l.records) + 1)
		fmt.Fprintln(&out, int(a.Read()), int(a.Read()))
		for range 6 {
			var given [][]byte
			for _, w := range a.Wants() {
				from := l
				if r.Intn(60) == 0 {
					from = fork
				}
				if r.Intn(30) == 0 {
					given = append(given, nil)
				} else {
					given = append(given, from.answer(w, n))
				}
			}
			fmt.Fprintln(&out, targetsIn(a.Wants()), int(a.Give(given)), int(a.Result()))
		}
		m := 1 + r.Intn(len(l.records))
		fmt.Fprintln(&out, int(a.Quit()), answers(a), int(a.Holds(l.factOf(r.Intn(m), m))), int(a.Holds(fork.factOf(r.Intn(m), m))))
	}
	return out.String()
}

// lives: the two logs of a run.
func lives(seed int64) (l, fork *logbook) {
	h := 1 + int(seed%4)
	records := someKeysTwice(150)
	return newLog(0, h, records...), newLog(0, h, append(slices.Clone(records[:60]), recs(60, 150, 3)...)...)
}

func TestNothingIsShared(t *testing.T) { // P22.7, P0.2: what is handed in is not changed nor kept; what is answered is new memory, the room behind it too
	t.Parallel()
	for seed := range int64(8) {
		l, fork := lives(seed)
		plain, spoilt := begun(t, configOf(0, l.h)), begun(t, configOf(0, l.h))
		if run(plain, l, fork, seed) != run(&spoiler{t, spoilt}, l, fork, seed) {
			t.Errorf("seed %d: an auditor whose bytes are spoilt tells otherwise", seed)
		}
		if told(plain) != told(spoilt) || plain.Head().Size == 0 {
			t.Errorf("seed %d: an auditor whose bytes are spoilt has read otherwise", seed)
		}
	}
}

func TestStateIsNotShared(t *testing.T) { // P22.7, P0.2: what Load was given
	l, _ := lives(1)
	for _, state := range []string{l.saved(70), "0\n", l.saved(70) + "x", "x"} {
		given, all := roomy([]byte(state), []byte("rest")...)
		a, e := audit.Load(configOf(0, l.h), given)
		if string(all) != state+"rest" {
			t.Error("Load changes its state")
		}
		spoil(all, '#')
		if e == api.OK && (string(a.Save()) != state || string(a.Note()) != string(loaded(t, configOf(0, l.h), state).Note())) {
			t.Error("Load keeps its state")
		}
	}
}

func TestEarlierAnswersStay(t *testing.T) { // P22.7, P0.2: whatever is called behind them
	l, fork := lives(2)
	a := at(t, configOf(0, l.h), l, 40)
	a.Read()
	round(a, l, 60)
	head, message, state, wanted, ids, repeats := a.Head(), a.Note(), a.Save(), a.Wants(), a.Find(keyOf(1)), a.Repeats()
	record, _ := a.Record(7)
	tell := func() string {
		return fmt.Sprintf("%v %q %q %q %v %v %q", head, message, state, wanted, ids, repeats, record)
	}
	before := tell()
	if len(wanted) == 0 || len(ids) < 2 || len(repeats) == 0 || len(message) == 0 {
		t.Fatal("the answers are empty")
	}
	run(a, l, fork, 3)
	readTo(a, l, 150)
	if tell() != before {
		t.Error("later calls are seen in answers")
	}
	if !bytes.Equal(state, []byte(l.saved(40))) {
		t.Error("the state that was saved is another one")
	}
}

func TestNilIsEmpty(t *testing.T) { // P0.1: responses and states that are nil, or empty
	l, _ := lives(3)
	for _, none := range [][]byte{nil, {}} {
		a := begun(t, configOf(0, l.h))
		a.Read()
		want(t, "Give", a.Give([][]byte{none}), api.OK)
		wants(t, "an answer that is empty", a, "/latest")
		want(t, "Give", a.Give([][]byte{}), api.ErrCount)
		want(t, "Give", a.Give(nil), api.ErrCount)
		if b, e := audit.Load(configOf(0, l.h), none); b != nil || e != api.ErrSaved {
			t.Errorf("Load = %v, %d", b != nil, int(e))
		}
	}
	one := newLog(0, 2, rec(0))
	a := at(t, configOf(0, 2), one, 1)
	for _, none := range [][]api.Hash{nil, {}} {
		f := one.factOf(0, 1)
		f.Proof = none
		want(t, "Holds", a.Holds(f), api.OK)
	}
}

// story: a life from its beginning on, and all that it leaves.
func story(seed int64) string {
	l, fork := lives(seed)
	a, _ := audit.New(configOf(0, l.h))
	told1 := run(a, l, fork, seed)
	b, _ := audit.Load(configOf(0, l.h), a.Save())
	return told1 + told(a) + run(b, l, fork, seed+1)
}

func TestSameCallsSameAnswers(t *testing.T) { // P22.7, P0.2: whatever other auditors do, at the same time too
	t.Parallel()
	const n = 4
	var first []string
	for seed := range int64(n) {
		first = append(first, story(seed))
	}
	if first[0] == first[1] || strings.Count(first[0], "\n") < 200 {
		t.Fatal("the stories tell nothing")
	}
	again := make([]string, 3*n)
	var wg sync.WaitGroup
	for i := range again {
		wg.Go(func() { again[i] = story(int64(i % n)) })
	}
	wg.Wait()
	for i, s := range again {
		if s != first[i%n] {
			t.Errorf("story %d is told otherwise the second time", i%n)
		}
	}
}

func TestAuditorsByTurns(t *testing.T) { // P0.2: each tells what it would tell alone
	l, fork := lives(1)
	together := []*audit.Auditor{begun(t, configOf(0, l.h)), begun(t, configOf(0, l.h))}
	alone := []*audit.Auditor{begun(t, configOf(0, l.h)), begun(t, configOf(0, l.h))}
	sources := []*logbook{l, fork}
	for n := 5; n <= 150; n += 29 {
		for i, a := range together {
			a.Read()
			round(a, sources[i], n)
		}
		for i, a := range together {
			rounds(a, sources[i], n)
		}
		for i, a := range alone {
			readTo(a, sources[i], n)
			if told(a) != told(together[i]) || a.Result() != api.OK || together[i].Result() != api.OK {
				t.Fatalf("beside another one who has read %d records tells otherwise", n)
			}
		}
	}
}
