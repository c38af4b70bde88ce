package client_test

import (
	"fmt"
	"math/rand"
	"slices"
	"strings"
	"sync"
	"testing"

	"ledger/api"
	"ledger/cache"
	"ledger/client"
	"ledger/disk"
)

// roomy: the items with room behind them, which an append would fill, and all of it.
func roomy[T any](items []T, rest ...T) (given, all []T) {
	all = slices.Concat(items, rest)
	return all[:len(items)], all
}

// spoil: overwrites a list and the room behind it.
func spoil[T any](list []T, with T) {
	list = list[:cap(list)]
	for i := range list {
		list[i] = with
	}
}

// spoiler: a session that is given bytes with room behind them, which are spoilt when it has been given them; each answer of it is spoilt too.
type spoiler struct {
	t *testing.T
	*client.Client
}

func (s *spoiler) bytes(b []byte) ([]byte, func()) {
	given, all := roomy(b, []byte("rest")...)
	return given, func() {
		s.t.Helper()
		if string(all) != string(b)+"rest" {
			s.t.Errorf("what was given is now %q; was %q", all, b)
		}
		spoil(all, '#')
	}
}

func (s *spoiler) Merge(head []byte) api.Errno {
	s.t.Helper()
	given, after := s.bytes(head)
	e := s.Client.Merge(given)
	after()
	s.spoilAnswers()
	return e
}

func (s *spoiler) Give(responses [][]byte) api.Errno {
	s.t.Helper()
	var list [][]byte
	var afters []func()
	for _, r := range responses {
		given, after := s.bytes(r)
		list, afters = append(list, given), append(afters, after)
	}
	given, all := roomy(list, []byte("rest"))
	kept := slices.Clone(all)
	e := s.Client.Give(given)
	for i, b := range all {
		if len(b) != len(kept[i]) || len(b) > 0 && &b[0] != &kept[i][0] {
			s.t.Error("the list that was given has changed")
		}
	}
	for _, after := range afters {
		after()
	}
	spoil(all, nil)
	s.spoilAnswers()
	return e
}

// spoilAnswers: two of each are asked; the one is spoilt and the other is not.
func (s *spoiler) spoilAnswers() {
	s.t.Helper()
	before := tell(s.Note()) + tell(s.Wants()) + tell(s.Result()) + tell(s.Facts())
	note, wants, result, facts := s.Note(), s.Wants(), s.Result(), s.Facts()
	again := tell(s.Note()) + tell(s.Wants()) + tell(s.Result()) + tell(s.Facts())
	apart(s.t, parts(note, wants, result, facts))
	spoil(wants, nil)
	spoil(result.Fork.Proof, api.Hash{1})
	for _, f := range facts {
		spoil(f.Proof, api.Hash{1})
	}
	spoil(facts, client.Fact{})
	if after := tell(s.Note()) + tell(s.Wants()) + tell(s.Result()) + tell(s.Facts()); before != again || before != after {
		s.t.Error("answers share memory with what is kept")
	}
}

// parts: all lists of bytes that were answered.
func parts(note []byte, wants [][]byte, result client.Result, facts []client.Fact) [][]byte {
	out := append([][]byte{note, result.Fork.Small, result.Fork.Great}, wants...)
	for _, f := range facts {
		out = append(out, f.Note)
	}
	return out
}

// apart: no two of them share memory: each is written over in turn, its spare room too, and those behind it are looked at.
func apart(t *testing.T, lists [][]byte) {
	t.Helper()
	var were []string
	for _, b := range lists {
		were = append(were, string(b))
	}
	for i, a := range lists {
		spoil(a, '?')
		for j, b := range lists[i+1:] {
			if string(b) != were[i+1+j] {
				t.Error("two lists of one answer share memory")
			}
		}
	}
}

// deed: what a run of calls is made of, by a session as it is or by one that spoils.
type deed interface {
	asker
	Lookup(path, version string) api.Errno
	Latest() api.Errno
	Merge(head []byte) api.Errno
	Quit() api.Errno
	Result() client.Result
	Facts() []client.Fact
	Note() []byte
}

// run: a session's life, as it tells it.
func run(c deed, b, fork *book, seed int64) string {
	var out strings.Builder
	r := rand.New(rand.NewSource(seed))
	for range 40 {
		n := 1 + r.Intn(len(b.records))
		switch r.Intn(5) {
		case 0:
			c.Latest()
		case 1:
			c.Merge([]byte(b.note(n)))
		case 2:
			c.Merge([]byte(fork.note(n)))
		default:
			c.Lookup(keyOf(r.Intn(n)))
		}
		for range 4 {
			var answers [][]byte
			for _, w := range c.Wants() {
				size := len(b.records)
				if !strings.Contains(targetOf(w), "/tile/") {
					size = n
				}
				from := b
				if r.Intn(20) == 0 {
					from = fork
				}
				if r.Intn(10) == 0 {
					answers = append(answers, nil)
				} else {
					answers = append(answers, from.answer(w, size))
				}
			}
			fmt.Fprintln(&out, targetsIn(c.Wants()), int(c.Give(answers)), tell(c.Result()))
		}
		fmt.Fprintln(&out, int(c.Quit()), string(c.Note()))
	}
	return out.String() + tell(c.Facts())
}

// lives: the two books of a run.
func lives(seed int64) (b, fork *book) {
	h := 1 + int(seed%8)
	return newBook(0, h, recs(0, 20)...), newBook(0, h, append(recs(0, 8), recs(8, 20, 3)...)...)
}

func TestNothingIsShared(t *testing.T) { // P17.11, P0.2: what is handed in is not changed nor kept; what is answered is new memory, the room behind it too
	t.Parallel()
	for seed := range int64(8) {
		b, fork := lives(seed)
		plain, f, d := begun(t, configOf(0, b.h))
		spoilt, g, e := begun(t, configOf(0, b.h))
		if run(plain, b, fork, seed) != run(&spoiler{t, spoilt}, b, fork, seed) {
			t.Errorf("seed %d: a session whose bytes are spoilt tells otherwise", seed)
		}
		if told(plain, f, d) != told(spoilt, g, e) {
			t.Errorf("seed %d: a session whose bytes are spoilt leaves other files", seed)
		}
	}
}

func TestHeadOfFilesIsNotShared(t *testing.T) { // P17.11, P0.2: nor with a cache that goes on being used
	b, _ := lives(1)
	c, f, _ := at(t, configOf(0, b.h), b, 7)
	spoil(f.Head(), '#')
	spoil(c.Note(), '#')
	if string(f.Head()) != b.note(7) || string(c.Note()) != b.note(7) {
		t.Errorf("Note = %q, the cache's %q", c.Note(), f.Head())
	}
	c.Merge([]byte(b.note(9)))
	rounds(c, b, 9)
	results(t, "Merge", c, client.Result{})
}

func TestEarlierAnswersStay(t *testing.T) { // P17.11, P0.2: whatever is called behind them
	b, fork := lives(2)
	c, _, _ := at(t, configOf(0, b.h), b, 5)
	c.Merge([]byte(fork.note(12)))
	wanted := c.Wants()
	rounds(c, fork, 12)
	c.Merge([]byte(b.note(4)))
	rounds(c, b, 5)
	c.Merge([]byte(fork.note(12)))
	rounds(c, fork, 20)
	head, message, result, facts := c.Head(), c.Note(), c.Result(), c.Facts()
	before := tell(wanted) + tell(head) + tell(message) + tell(result) + tell(facts)
	run(c, b, fork, 3)
	if tell(wanted)+tell(head)+tell(message)+tell(result)+tell(facts) != before {
		t.Error("later calls are seen in answers")
	}
	if len(wanted) == 0 || len(facts) == 0 || len(message) == 0 {
		t.Error("the answers were empty")
	}
}

func TestNilIsEmpty(t *testing.T) { // P0.1: heads and responses that are nil, or empty
	b, _ := lives(3)
	for _, none := range [][]byte{nil, {}} {
		c, _, _ := begun(t, configOf(0, b.h))
		want(t, "Merge", c.Merge(none), api.OK)
		refused(t, "Merge", c, api.ErrNote)
		c.Lookup(keyOf(0))
		want(t, "Give", c.Give([][]byte{none}), api.OK)
		if len(c.Wants()) != 1 {
			t.Error("a response that is empty counts as an answer")
		}
		want(t, "Give", c.Give([][]byte{}), api.ErrCount)
		want(t, "Give", c.Give(nil), api.ErrCount)
	}
}

// story: a run on a disk of its own, and all that it leaves.
func story(seed int64) string {
	b, fork := lives(seed)
	d, _ := disk.New(space)
	f, _ := cache.Open(d, "a", int(seed))
	c, _ := client.New(configOf(0, b.h), f)
	return run(c, b, fork, seed) + told(c, f, d)
}

func TestSameCallsSameAnswers(t *testing.T) { // P17.11, P0.2: whatever other sessions do, at the same time too
	const n = 6
	var first []string
	for seed := range int64(n) {
		first = append(first, story(seed))
	}
	if first[0] == first[1] || strings.Count(first[0], "\n") < 100 {
		t.Fatal("the stories tell nothing")
	}
	again := make([]string, 4*n)
	var wg sync.WaitGroup
	for i := range again {
		wg.Go(func() { again[i] = story(int64(i % n)) })
	}
	wg.Wait()
	for i, s := range again {
		if s != first[i%n] {
			t.Errorf("story %d is told otherwise the second time", i%n)
		}
	}
}

func TestSessionsByTurns(t *testing.T) { // P17.11: with caches of their own on one disk: each tells what it would tell alone
	t.Parallel()
	names := []string{"a", "b", "ab"}
	shared := loaded(t)
	for seed := range int64(4) {
		b, fork := lives(seed)
		var together, alone []*client.Client
		for _, name := range names {
			f, _ := cache.Open(shared, fmt.Sprint(name, seed), 20)
			c, e := client.New(configOf(0, b.h), f)
			want(t, "New", e, api.OK)
			own, _, _ := begun(t, configOf(0, b.h))
			together, alone = append(together, c), append(alone, own)
		}
		for range 20 {
			for i := range names {
				for _, c := range []*client.Client{together[i], alone[i]} {
					size := min(20, int(c.Head().Size)+1+i)
					c.Lookup(keyOf(size - 1))
					round(c, b, size)
				}
			}
			for i := range names {
				for _, c := range []*client.Client{together[i], alone[i]} {
					rounds(c, b, 20)
					c.Merge([]byte(fork.note(3 + i)))
					rounds(c, b, 20)
				}
				if tell(together[i].Result())+tell(together[i].Facts()) != tell(alone[i].Result())+tell(alone[i].Facts()) {
					t.Fatalf("%s beside others tells otherwise than alone", names[i])
				}
			}
		}
	}
}
