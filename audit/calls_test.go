package audit_test

import (
	"math"
	"strings"
	"testing"

	"ledger/api"
	"ledger/client"
)

// states: on both sides: no reading yet, one under way (the head, some tiles, all tiles, a second group wanted), one that has ended each way.
func states(t *testing.T) map[string]*pair {
	l := newLog(0, 1, recs(0, 150)...)
	fork := newLog(0, 1, recs(0, 7, 9)...)
	out := map[string]*pair{}
	add := func(name string, had int, do func(p *pair)) {
		p := newPair(t, configOf(0, 1))
		if had > 0 {
			readTo(p, l, had)
		}
		do(p)
		out[name] = p
	}
	add("new", 0, func(p *pair) {})
	add("loaded", 0, func(p *pair) { p.Load(l.saved(5)) })
	add("head wanted", 5, func(p *pair) { p.Read() })
	add("tiles wanted", 5, func(p *pair) { p.Read(); round(p, l, 9) })
	add("some tiles wanted", 5, func(p *pair) {
		p.Read()
		round(p, l, 9)
		answers := make([][]byte, len(p.Wants()))
		answers[1] = l.answer(p.Wants()[1], 9)
		p.Give(answers)
	})
	add("second group wanted", 3, func(p *pair) { p.Read(); round(p, l, 150); round(p, l, 150) })
	add("read", 6, func(p *pair) {})
	add("refused", 5, func(p *pair) { p.Read(); p.Give([][]byte{[]byte("x")}) })
	add("forked", 5, func(p *pair) { p.Read(); round(p, fork, 5) })
	add("quit", 5, func(p *pair) { p.Read(); round(p, l, 9); p.Quit() })
	return out
}

func TestErrorsOfCalls(t *testing.T) { // P22.2, P0.1: in each state, in their order; they begin and change nothing
	for name, p := range states(t) {
		under := strings.HasSuffix(name, "wanted")
		never := name == "new" || name == "loaded"
		if (len(p.Wants()) > 0) != under || (p.a.Result() == api.ErrState) != (under || never) {
			t.Fatalf("%s: wants %d, Result %d", name, len(p.Wants()), int(p.a.Result()))
		}
		before, wanted, result := told(p.a), targetsIn(p.Wants()), p.a.Result()
		if under {
			want(t, name+": Read", p.Read(), api.ErrState)
			for n := range len(p.Wants()) + 3 {
				answers := make([][]byte, n)
				for i := range answers {
					answers[i] = []byte("x")
				}
				if n != len(p.Wants()) {
					want(t, name+": Give", p.Give(answers), api.ErrCount)
				}
			}
			want(t, name+": Give of nothing", p.Give(make([][]byte, len(p.Wants()))), api.OK)
		} else {
			for _, answers := range [][][]byte{nil, {}, {nil}, {[]byte("x")}, make([][]byte, 100)} {
				want(t, name+": Give", p.Give(answers), api.ErrState)
			}
			want(t, name+": Quit", p.Quit(), api.ErrState)
		}
		for _, id := range []int64{-1, math.MinInt64, p.a.Head().Size, math.MaxInt64} {
			if r, e := p.a.Record(id); r != "" || e != api.ErrArg {
				t.Errorf("%s: Record(%d) = %q, %d", name, id, r, int(e))
			}
		}
		want(t, name+": Holds of no fact", p.Holds(client.Fact{}), api.ErrArg)
		if told(p.a) != before || targetsIn(p.Wants()) != wanted || p.a.Result() != result {
			t.Errorf("%s: a call with an error has changed something", name)
		}
		if under {
			want(t, name+": Quit", p.Quit(), api.OK)
			ended(t, name+": Quit", p.a, api.ErrTimeout)
			want(t, name+": Quit again", p.Quit(), api.ErrState)
		}
		want(t, name+": Read behind all", p.Read(), api.OK)
		wants(t, name+": Read behind all", p, "/latest")
		want(t, name+": Result behind all", p.a.Result(), api.ErrState)
	}
}

func TestUnderWayTellsWhatWasReadAhead(t *testing.T) { // P22.1, P22.2: all calls, up to the last tile; and Save
	l := newLog(0, 1, recs(0, 150)...)
	p := newPair(t, configOf(0, 1))
	readTo(p, l, 5)
	p.Read()
	for steps := 0; len(p.Wants()) > 0; steps++ {
		hasRead(t, "under way", p.a, l, 5)
		want(t, "Result", p.a.Result(), api.ErrState)
		want(t, "Holds of what was read", p.Holds(l.factOf(4, 5)), api.OK)
		want(t, "Holds of what comes", p.Holds(l.factOf(4, 6)), api.ErrArg)
		if len(p.a.Find(keyOf(9))) != 0 {
			t.Error("Find tells a record that is not read yet")
		}
		answers := make([][]byte, len(p.Wants()))
		answers[len(answers)/2] = l.answer(p.Wants()[len(answers)/2], 150)
		p.Give(answers)
	}
	hasRead(t, "at the end", p.a, l, 150)
	want(t, "Holds at the end", p.Holds(l.factOf(4, 6)), api.OK)
}

func TestAnswersMayComeByPieces(t *testing.T) { // P22.6, Give: in every order; those that did not come are wanted still, in their order
	l := newLog(0, 1, recs(0, 13)...)
	begin := func() *pair {
		p := newPair(t, configOf(0, 1))
		readTo(p, l, 3)
		p.Read()
		round(p, l, 13)
		return p
	}
	n := len(begin().Wants())
	if n != 6 {
		t.Fatalf("%d tiles", n)
	}
	for mask := range 1 << n {
		p := begin()
		all := p.Wants()
		want(t, "Give of nothing", p.Give(make([][]byte, n)), api.OK)
		answers := make([][]byte, n)
		var left []string
		for i, w := range all {
			if mask>>i&1 == 1 {
				answers[i] = l.answer(w, 13)
			} else {
				answers[i] = []byte{}
				left = append(left, targetOf(w))
			}
		}
		want(t, "Give", p.Give(answers), api.OK)
		wants(t, "Give", p, left...)
		for len(p.Wants()) > 0 {
			want(t, "Result", p.a.Result(), api.ErrState)
			answers := make([][]byte, len(p.Wants()))
			last := len(answers) - 1
			answers[last] = l.answer(p.Wants()[last], 13)
			want(t, "Give of the last", p.Give(answers), api.OK)
		}
		ended(t, "all have come", p.a, api.OK)
		hasRead(t, "all have come", p.a, l, 13)
	}
}

func TestErrorsWaitForAllAnswers(t *testing.T) { // P22.2, P0.1: and then that of the first tile counts, whichever came first
	l := newLog(0, 1, recs(0, 13)...)
	spoils := map[api.Errno][]byte{api.ErrResponse: []byte("x"), api.ErrRefused: answerOf(500, "x"), api.ErrBody: ok("x"), api.ErrRecord: ok(lengthened("x", "y"))}
	for first := range spoils {
		for second := range spoils {
			p := newPair(t, configOf(0, 1))
			p.Read()
			round(p, l, 13)
			n := len(p.Wants())
			answers := make([][]byte, n)
			answers[n-2] = spoils[second]
			p.Give(answers)
			if len(p.Wants()) != n-1 {
				t.Fatalf("%d wanted of %d", len(p.Wants()), n)
			}
			answers = nil
			for _, w := range p.Wants() {
				answers = append(answers, l.answer(w, 13))
			}
			answers[1] = spoils[first]
			p.Give(answers)
			ended(t, "two spoilt tiles", p.a, first)
		}
	}
}

func TestQuitForgets(t *testing.T) { // P22.2, Quit: what was given is forgotten; the next reading asks for all of it again
	l := newLog(0, 1, recs(0, 150)...)
	p := newPair(t, configOf(0, 1))
	readTo(p, l, 3)
	for range 3 {
		p.Read()
		round(p, l, 150)
		first := targetsIn(p.Wants())
		round(p, l, 150)
		answers := make([][]byte, len(p.Wants()))
		answers[0] = l.answer(p.Wants()[0], 150)
		p.Give(answers)
		want(t, "Quit", p.Quit(), api.OK)
		ended(t, "Quit", p.a, api.ErrTimeout)
		hasRead(t, "Quit", p.a, l, 3)
		p.Read()
		wants(t, "Read behind Quit", p, "/latest")
		round(p, l, 150)
		wants(t, "Read behind Quit", p, strings.Fields(first)...)
		p.Quit()
	}
	readTo(p, l, 150)
	hasRead(t, "at last", p.a, l, 150)
}

func TestResultIsOfTheLastReading(t *testing.T) { // P22.2, Result: whatever was called behind it
	l, fork := newLog(0, 2, recs(0, 9)...), newLog(0, 2, recs(0, 9, 1)...)
	p := newPair(t, configOf(0, 2))
	for n := 2; n < 9; n++ {
		for _, x := range []struct {
			e  api.Errno
			do func()
		}{
			{api.OK, func() { readTo(p, l, n) }},
			{api.ErrFork, func() { readTo(p, fork, n) }},
			{api.ErrRefused, func() { p.Read(); p.Give([][]byte{answerOf(503, "")}) }},
			{api.ErrTimeout, func() { p.Read(); p.Quit() }},
			{api.OK, func() { readTo(p, l, n-1) }},
			{api.ErrAuth, func() { readTo(p, fork, n+1) }},
		} {
			x.do()
			ended(t, "a reading", p.a, x.e)
			p.Give(nil)
			p.Give([][]byte{[]byte("x")})
			p.Quit()
			p.Holds(l.factOf(0, 1))
			p.a.Record(-1)
			p.a.Find("")
			ended(t, "behind other calls", p.a, x.e)
			hasRead(t, "behind other calls", p.a, l, n)
		}
	}
}
