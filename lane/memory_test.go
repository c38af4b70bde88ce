package lane_test

import (
	"runtime"
	"slices"
	"strings"
	"sync"
	"testing"

	"ledger/api"
	"ledger/lane"
)

// roomy: the items with room behind them, which an append would fill, and all of it.
func roomy[T any](items []T, rest ...T) (given, all []T) {
	all = slices.Concat(items, rest)
	return all[:len(items)], all
}

// spoil: overwrites a list and the room behind it.
func spoil[T any](list []T, with T) {
	list = list[:cap(list)]
	for i := range list {
		list[i] = with
	}
}

// eachFate: one of each kind, some of them with two numbers.
func eachFate() []lane.Fate {
	return []lane.Fate{fate(lane.Deliver, 0), fate(lane.Double, 0), fate(lane.Double, 2), fate(lane.Delay, 0), fate(lane.Delay, 2), fate(lane.Cut, 2), fate(lane.Cut, 9), fate(lane.Spoil, 1), fate(lane.Spoil, 9)}
}

func TestSentBytesAreNotKept(t *testing.T) { // P19.5, P0.2: not changed either, nor the room behind them
	for _, f := range eachFate() {
		n, like := made(t, 1, f), made(t, 1, f)
		sends(t, like, 0, "abc")
		given, all := roomy([]byte("abc"), []byte("rest")...)
		want(t, "Send", n.Send(0, given), api.OK)
		if string(all) != "abcrest" {
			t.Errorf("%v: Send leaves its message as %q", f, all)
		}
		spoil(all, '#')
		if got, right := arrivals(t, n, 0, 3), arrivals(t, like, 0, 3); !slices.Equal(got, right) || len(got) == 0 {
			t.Errorf("%v: behind a change of what was sent %v comes; want %v", f, got, right)
		}
	}
}

func TestAnswersAreNewMemory(t *testing.T) { // P19.5, P0.2: two that come of one message share none, nor do two of one list
	for _, f := range eachFate() {
		n := made(t, 2, f, f)
		data := []byte("abcdef")
		n.Send(0, data[:3])
		n.Send(0, data[3:])
		n.Pass(3)
		right := made(t, 2, f, f)
		sends(t, right, 0, "abc", "def")
		right.Pass(3)
		var got [][]byte
		for count, _ := n.Waiting(0); len(got) < count; {
			_, b, _ := n.Any([]int{1, 0}, 0)
			got = append(got, b)
		}
		var texts []string
		for _, b := range got {
			texts = append(texts, string(b))
			spoil(b, '#')
		}
		if all := drained(t, right, 0); !slices.Equal(texts, all) || string(data) != "abcdef" {
			t.Errorf("%v: %q and then %q, of %q; want %q", f, texts, data, "abcdef", all)
		}
	}
}

func TestSpoiltAnswersLeaveWhatComes(t *testing.T) { // P19.5: the first copy is spoilt while the second waits, or is on its way
	for late := range 3 {
		n := made(t, 1, fate(lane.Double, late))
		sends(t, n, 0, "abc")
		b, _ := n.Wait(0, 0)
		spoil(b, '#')
		waits(t, n, 0, late, "abc", api.OK, late)
	}
}

func TestLaterCallsLeaveAnswers(t *testing.T) { // P19.5, P0.2
	n := made(t, 1, fate(lane.Double, 1), fate(lane.Spoil, 0))
	sends(t, n, 0, "abc")
	first, _ := n.Wait(0, 0)
	sends(t, n, 0, "xyz")
	n.Pass(1)
	second, _ := n.Wait(0, 0)
	third, _ := n.Wait(0, 0)
	n.Send(0, []byte("###"))
	n.Close(0)
	n.Wait(0, 0)
	if string(first) != "abc" || string(second) != "yyz" || string(third) != "abc" {
		t.Errorf("later calls are seen in answers: %q, %q, %q", first, second, third)
	}
}

func TestFatesAreNotKept(t *testing.T) { // P19.5, P0.2: nor changed, by later messages either
	fates, all := roomy([]lane.Fate{fate(lane.Cut, 1), fate(lane.Delay, 1), fate(lane.Cut, 2)}, fate(lane.Drop, 0), fate(9, 9))
	before := slices.Clone(all)
	n := made(t, 1, fates...)
	other := made(t, 1, fates...)
	sends(t, other, 0, "abc", "abc", "abc", "abc")
	if !slices.Equal(all, before) {
		t.Errorf("New, or what follows, leaves its fates as %v", all)
	}
	sends(t, n, 0, "abc")
	spoil(all, fate(lane.Drop, 0))
	sends(t, n, 0, "def", "ghi", "jkl")
	n.Pass(1)
	holds(t, "behind a change of the fates", n, 0, "a", "gh", "jkl", "def")
}

func TestListOfLanesStays(t *testing.T) { // P19.5, P0.2: not changed, nor the room behind it
	n := made(t, 5, fate(lane.Deliver, 0), fate(lane.Delay, 2))
	sends(t, n, 3, "a")
	sends(t, n, 4, "b")
	given, all := roomy([]int{4, 3, 0}, 7, 8, 9)
	gives(t, n, given, 1, 3, "a", api.OK, 0)
	gives(t, n, given, 1, 0, "", api.ErrTimeout, 1)
	gives(t, n, given, 1, 4, "b", api.OK, 2)
	n.Any(all, 0)
	if !slices.Equal(all, []int{4, 3, 0, 7, 8, 9}) {
		t.Errorf("Any leaves its list as %v", all)
	}
}

func TestSameCallsSameAnswers(t *testing.T) { // P0.2: whatever other nets are asked, at the same time too
	var first []string
	for seed := range 8 {
		first = append(first, story(int64(seed)))
	}
	if first[0] == first[1] || strings.Count(first[0], "\n") < 300 {
		t.Fatal("the stories tell nothing")
	}
	again := make([]string, 64)
	var wg sync.WaitGroup
	for i := range again {
		wg.Go(func() { again[i] = story(int64(i % 8)) })
	}
	wg.Wait()
	for i, s := range again {
		if s != first[i%8] {
			t.Errorf("story %d is told otherwise the second time", i%8)
		}
	}
}

func TestNetsAreApart(t *testing.T) { // P0.2: two by turns, made of one list of fates
	fates := []lane.Fate{fate(lane.Delay, 2), fate(lane.Cut, 1)}
	x, y := made(t, 1, fates...), made(t, 1, fates...)
	sends(t, x, 0, "abc")
	want(t, "Close of the one", x.Close(0), api.OK)
	passes(t, x, 7)
	if y.Now() != 0 {
		t.Errorf("the other's time is %d", y.Now())
	}
	sends(t, y, 0, "def", "ghi")
	waits(t, y, 0, 9, "g", api.OK, 0)
	waits(t, y, 0, 9, "def", api.OK, 2)
	waits(t, x, 0, 9, "abc", api.OK, 7)
	isOver(t, x, 0)
}

func TestNothingRunsOn(t *testing.T) { // P0.1: no goroutine is left behind by any call
	before := runtime.NumGoroutine()
	for seed := range 20 {
		story(int64(seed))
	}
	if after := runtime.NumGoroutine(); after > before {
		t.Errorf("%d goroutines, and %d behind the calls", before, after)
	}
}

func TestWhatHasComeIsNotKept(t *testing.T) { // P19.5: messages that were late and were taken, or lost, hold no memory
	const count = 128
	n := made(t, 2, slices.Repeat([]lane.Fate{fate(lane.Delay, 1)}, count)...)
	message := make([]byte, api.MaxBytes)
	heap := func() uint64 {
		var m runtime.MemStats
		runtime.GC()
		runtime.ReadMemStats(&m)
		return m.HeapAlloc
	}
	before := heap()
	for range count {
		n.Send(0, message)
		n.Wait(0, 1)
	}
	if after := heap(); n.Now() != count || after > before+count/2*api.MaxBytes {
		t.Errorf("%d bytes are held behind %d messages, %d ahead of them", after, n.Now(), before)
	}
	runtime.KeepAlive(n)
}
