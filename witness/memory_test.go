package witness_test

import (
	"fmt"
	"math/rand"
	"slices"
	"strings"
	"sync"
	"testing"

	"ledger/api"
	"ledger/disk"
	"ledger/note"
	"ledger/witness"
)

func byName(a, b disk.File) int { return strings.Compare(a.Name, b.Name) }

// roomy: the items with room behind them, which an append would fill, and all of it.
func roomy[T any](items []T, rest ...T) (given, all []T) {
	all = slices.Concat(items, rest)
	return all[:len(items)], all
}

// spoil: overwrites a list and the room behind it.
func spoil[T any](list []T, with T) {
	list = list[:cap(list)]
	for i := range list {
		list[i] = with
	}
}

func TestGivenListsStay(t *testing.T) { // P21.8, P0.2: not changed, nor the room behind them, and not kept
	b := trunk()
	d := made(t)
	c := configOf(origin, "log.other")
	logs, allLogs := roomy(c.Logs, witness.Log{Origin: "x", Verifier: "y"})
	before := slices.Clone(allLogs)
	c.Logs = logs
	w := opened(t, d, c)
	if !slices.Equal(allLogs, before) {
		t.Error("Open changes its list")
	}
	spoil(allLogs, witness.Log{Origin: "log.spoilt"})
	if _, ok := w.Head("log.spoilt"); ok {
		t.Error("Open keeps its list")
	}
	cosigned(t, w, b, 0, 3)
	head, allHead := roomy(b.signed(9), []byte("room behind it")...)
	path, allPath := roomy(b.path(3, 9), api.Hash{1}, api.Hash{2})
	for range 2 {
		w.Cosign(head, 3, path) // OK, then ErrConflict
		if string(allHead) != string(b.signed(9))+"room behind it" || !slices.Equal(allPath, append(b.path(3, 9), api.Hash{1}, api.Hash{2})) {
			t.Fatal("Cosign changes what it is given")
		}
	}
	spoil(allHead, '#')
	spoil(allPath, api.Hash{})
	has(t, "behind spoilt lists", w, b.head(9))
	ask, allAsk := roomy(asked(t, 9, b.path(9, 14), b.signed(14)), '!', '?')
	said := string(allAsk)
	for _, status := range []int{200, 409} {
		if got, _ := w.Answer(ask); got != status || string(allAsk) != said {
			t.Fatalf("Answer = %d, or changes its ask", got)
		}
	}
	old, path, head, e := witness.ParseAsk(ask)
	if string(allAsk) != said {
		t.Error("ParseAsk changes its ask")
	}
	spoil(allAsk, '#')
	if old != 9 || !slices.Equal(path, b.path(9, 14)) || string(head) != string(b.signed(14)) || e != api.OK {
		t.Error("ParseAsk's parts are the ask's memory")
	}
	has(t, "behind a spoilt ask", w, b.head(14))
	if got, _ := d.Read(file); string(got) != textOf(b.head(14)) {
		t.Errorf("the file is %q", got)
	}
}

func TestGivenToPlainFunctions(t *testing.T) { // P21.8, P0.2
	b := trunk()
	head, allHead := roomy(b.signed(9), []byte("room")...)
	path, allPath := roomy(b.path(3, 9), api.Hash{1})
	ask, _ := witness.FormatAsk(3, path, head)
	if string(allHead) != string(b.signed(9))+"room" || !slices.Equal(allPath, append(b.path(3, 9), api.Hash{1})) {
		t.Error("FormatAsk changes what it is given")
	}
	said := string(ask)
	spoil(allHead, '#')
	spoil(allPath, api.Hash{9})
	if string(ask) != said {
		t.Error("FormatAsk's answer is the note's memory")
	}
	message, allMessage := roomy(signText("text\n", 1, 2), []byte("room")...)
	verifiers, allVerifiers := roomy([]string{verifierOf(2), verifierOf(1)}, "x", "y")
	for _, need := range []int{2, 1, 3} {
		witness.Quorum(message, verifiers, need)
	}
	if string(allMessage) != string(signText("text\n", 1, 2))+"room" || !slices.Equal(allVerifiers, []string{verifierOf(2), verifierOf(1), "x", "y"}) {
		t.Error("Quorum changes what it is given")
	}
}

func TestAnswersAreNewMemory(t *testing.T) { // P21.8, P0.2: the bodies of refusals too
	b := trunk()
	d, w := begun(t, 3)
	files := told(d.Files())
	m, _ := w.Cosign(b.signed(3), 3, nil)
	again, _ := w.Cosign(b.signed(3), 3, nil)
	spoil(m, '#')
	if right := string(signedBy(b.head(3), logKey, witnessKey)); string(again) != right {
		t.Error("two answers of Cosign share memory")
	}
	for _, ask := range [][]byte{nil, asked(t, 3, nil, b.signed(3)), asked(t, 2, nil, b.signed(2)), asked(t, 3, nil, b.signed(4)), asked(t, 3, nil, signedBy(b.head(3), strangerKey)), asked(t, 3, nil, signedBy(note.Head{Origin: "else"}, logKey))} {
		status, first := w.Answer(ask)
		_, second := w.Answer(ask)
		said := string(second)
		spoil(first, '#')
		got, third := w.Answer(ask)
		if string(second) != said || string(third) != said || got != status {
			t.Errorf("bodies of %d share memory", status)
		}
	}
	ask := asked(t, 3, b.path(3, 9), b.signed(9))
	said := string(ask)
	_, path, head, _ := witness.ParseAsk(ask)
	other, _ := witness.FormatAsk(3, path, head)
	spoil(path, api.Hash{})
	spoil(head, '#')
	if string(ask) != said || string(other) != said {
		t.Error("the parts of an ask share its memory")
	}
	spoil(other, '#')
	if string(asked(t, 3, b.path(3, 9), b.signed(9))) != said {
		t.Error("FormatAsk answers otherwise the second time")
	}
	has(t, "behind spoilt answers", w, b.head(3))
	if told(d.Files()) != files {
		t.Error("a spoilt answer is seen on the disk")
	}
}

func TestNilIsEmpty(t *testing.T) { // P0.1: lists, notes and asks
	b := trunk()
	for _, path := range [][]api.Hash{nil, {}} {
		_, w := begun(t)
		if _, e := w.Cosign(b.signed(2), 0, path); e != api.OK {
			t.Errorf("Cosign = %d", int(e))
		}
		if ask, e := witness.FormatAsk(2, path, b.signed(2)); string(ask) != "old 2\n\n"+string(b.signed(2)) || e != api.OK {
			t.Errorf("FormatAsk = %q, %d", ask, int(e))
		}
	}
	for _, none := range [][]byte{nil, {}} {
		_, w := begun(t)
		refuses(t, "no bytes", w, none, 0, nil, api.ErrNote)
		if status, body := w.Answer(none); status != 400 || string(body) != "bad request\n" {
			t.Errorf("Answer = %d, %q", status, body)
		}
		_, e := witness.FormatAsk(0, nil, none)
		want(t, "FormatAsk", e, api.ErrAsk)
		_, _, _, e = witness.ParseAsk(none)
		want(t, "ParseAsk", e, api.ErrAsk)
		want(t, "Quorum", witness.Quorum(none, []string{verifierOf(1)}, 1), api.ErrNote)
	}
	for _, logs := range [][]witness.Log{nil, {}} {
		c := configOf()
		c.Logs = logs
		refuses(t, "no logs", opened(t, made(t), c), b.signed(2), 0, nil, api.ErrOrigin)
	}
	for _, verifiers := range [][]string{nil, {}} {
		want(t, "Quorum", witness.Quorum(b.signed(1), verifiers, 1), api.ErrArg)
	}
}

func TestLogsAreApart(t *testing.T) { // P21.8: what is asked for one origin changes nothing of another's, faults too
	d := made(t)
	w := opened(t, d, configOf(origin, "log.other"))
	a, b := trunk(), newBranch(strict, "log.other", logKey+1, grown, 0)
	other := "witness/w/6c6f672e6f74686572"
	cosigned(t, w, b, 0, 7)
	before, _ := d.Read(other)
	for n := int64(1); n <= grown; n++ {
		h, _ := w.Head(origin)
		if n%3 == 0 {
			d.Fail(int(n%5)+1, api.ErrIO)
		}
		w.Cosign(a.signed(n), h.Size, a.path(h.Size, n))
		w.Cosign(a.signed(n), n+1, nil)
		d.Fail(0, api.ErrIO)
		has(t, "the other log", w, b.head(7))
		if after, _ := d.Read(other); string(after) != string(before) {
			t.Fatalf("the other log's file is %q", after)
		}
	}
	cosigned(t, w, b, 7, 9)
	has(t, "the first log", w, a.head(20))
	w = opened(t, d.Crash([]int{-1}), configOf("log.other", "x", origin))
	has(t, "opened anew, the other log", w, b.head(9))
}

func TestNamesAreApart(t *testing.T) { // P21.8: on one disk, one in the midst of a fault; and a log's and a cache's files
	others := []disk.File{{Name: "head", Data: []byte("h")}, {Name: "tile/x.new"}, {Name: "cache/w/head.new"}}
	d := made(t, others...)
	a, b := trunk(), parted(2)
	w := opened(t, d, config())
	longer, e := witness.Open(d, "w1", config())
	if e != api.OK {
		t.Fatal(e)
	}
	cosigned(t, w, a, 0, 5)
	cosigned(t, longer, b, 0, 5)
	d.Fail(3, api.ErrIO)
	refuses(t, "the longer name", longer, b.signed(9), 5, b.path(5, 9), api.ErrIO)
	w = opened(t, d, config())
	left := "witness/w1/6c6f672e6578616d706c65.new"
	if _, e := d.Read(left); e != api.OK {
		t.Errorf("%s is gone", left)
	}
	cosigned(t, w, a, 5, 8)
	cosigned(t, longer, b, 5, 6)
	has(t, "the one", w, a.head(8))
	has(t, "the other", longer, b.head(6))
	if names(d) != "cache/w/head.new head tile/x.new "+file+" witness/w1/6c6f672e6578616d706c65" {
		t.Errorf("the disk has %s", names(d))
	}
}

// story: a long run of asks, faults, crashes and openings, and all that was told on the way.
func story(seed int64) string {
	var out strings.Builder
	r := rand.New(rand.NewSource(seed))
	d, _ := disk.New(room)
	w, _ := witness.Open(d, "w", config())
	branches := []branch{trunk(), parted(3), parted(8)}
	for i := range 40 {
		if i%7 == 6 {
			d = d.Crash([]int{r.Intn(9), r.Intn(99)})
			var e api.Errno
			w, e = witness.Open(d, "w", config())
			fmt.Fprintln(&out, int(e))
		}
		if r.Intn(3) == 0 {
			d.Fail(1+r.Intn(9), api.ErrIO)
		}
		h, ok := w.Head(origin)
		b, n := branches[r.Intn(3)], min(h.Size+int64(r.Intn(3)), grown)
		ask, e := witness.FormatAsk(h.Size, b.path(h.Size, n), b.signed(n))
		status, body := w.Answer(ask)
		m, f := w.Cosign(b.signed(n), n, nil)
		q := witness.Quorum(m, []string{verifierOf(logKey), verifierOf(witnessKey)}, 2)
		fmt.Fprintln(&out, h, ok, int(e), status, string(body), string(m), int(f), int(q), d.Acts(), d.Pending(), told(d.Files()))
	}
	return out.String()
}

func TestSameCallsSameAnswers(t *testing.T) { // P21.8, P0.2: whatever other witnesses are asked, at the same time too
	var first []string
	for seed := range 6 {
		first = append(first, story(int64(seed)))
	}
	if first[0] == first[1] || strings.Count(first[0], "\n") < 40 {
		t.Fatal("the stories tell nothing")
	}
	again := make([]string, 36)
	var wg sync.WaitGroup
	for i := range again {
		wg.Go(func() { again[i] = story(int64(i % 6)) })
	}
	wg.Wait()
	for i, s := range again {
		if s != first[i%6] {
			t.Errorf("story %d is told otherwise the second time", i%6)
		}
	}
}
