package client_test

import (
	"strings"
	"testing"

	"ledger/api"
	"ledger/client"
)

// states: sessions on both sides: no task yet, one under way (the first answer, some tiles, all tiles wanted), one that has ended each way.
func states(t *testing.T) map[string]*pair {
	b := newBook(0, 1, recs(0, 7)...)
	fork := newBook(0, 1, recs(0, 7, 9)...)
	path, version := keyOf(2)
	out := map[string]*pair{}
	add := func(name string, do func(p *pair)) {
		p := newPair(t, configOf(0, 1), 9)
		p.Merge(b.note(5))
		p.Merge("")
		if name == "new" {
			p = newPair(t, configOf(0, 1), 9)
		}
		do(p)
		out[name] = p
	}
	add("new", func(p *pair) {})
	add("lookup", func(p *pair) { p.Lookup(path, version) })
	add("latest", func(p *pair) { p.Latest() })
	add("tiles", func(p *pair) { p.Lookup(path, version); round(p, b, 7) })
	add("some tiles", func(p *pair) {
		p.Merge(b.note(7))
		answers := make([][]byte, len(p.Wants()))
		answers[1] = b.answer(p.Wants()[1], 7)
		p.Give(answers)
	})
	add("merged", func(p *pair) { p.Merge(b.note(6)); rounds(p, b, 6) })
	add("found", func(p *pair) { p.Lookup(path, version); rounds(p, b, 6) })
	add("refused", func(p *pair) { p.Lookup(path, version); p.Give([][]byte{[]byte("x")}) })
	add("quit", func(p *pair) { p.Latest(); p.Quit() })
	add("forked", func(p *pair) { p.Merge(fork.note(5)) })
	return out
}

func isUnderWay(name string) bool {
	return name == "lookup" || name == "latest" || strings.HasSuffix(name, "tiles")
}

func TestErrorsOfCalls(t *testing.T) { // P17.3, P17.5, P17.6, P17.7, P0.1: in each state, in their order; they begin and change nothing
	long := strings.Repeat("x", 65537)
	for name, p := range states(t) {
		under := isUnderWay(name)
		if (len(p.Wants()) > 0) != under || (p.c.Result().Err == api.ErrState) != (under || name == "new") {
			t.Fatalf("%s: wants %d, Result %d", name, len(p.Wants()), int(p.c.Result().Err))
		}
		before, wanted, result := told(p.c, p.f, p.d), targetsOf(p.c), tell(p.c.Result())
		first := func(e api.Errno) api.Errno {
			if under {
				return api.ErrState
			}
			return e
		}
		for _, x := range []struct {
			path, version string
			e             api.Errno
		}{
			{"A", "v1", api.ErrModPath}, {"", "", api.ErrModPath}, {"a.com/", "v1.0.0", api.ErrModPath}, {"a.com@v1.0.0", "v1.0.0", api.ErrModPath}, {strings.Repeat("a", 256), "x", api.ErrModPath}, {"a.com\n", "v1.0.0", api.ErrModPath}, {long, long, api.ErrModPath},
			{"a.com", "v1", api.ErrVersion}, {"a.com", "", api.ErrVersion}, {"a.com/v2", "v1.0.0", api.ErrVersion}, {"a.com", "v2.0.0", api.ErrVersion}, {"a.com", "v1.0.0 ", api.ErrVersion}, {"a.com", "v1.0.0/go.mod", api.ErrVersion}, {"a.com", long, api.ErrVersion},
		} {
			want(t, name+": Lookup("+x.path[:min(len(x.path), 20)]+")", p.Lookup(x.path, x.version), first(x.e))
		}
		want(t, name+": Merge of too many bytes", p.Merge(long), first(api.ErrLong))
		if under {
			want(t, name+": Lookup", p.Lookup(keyOf(1)), api.ErrState)
			want(t, name+": Latest", p.Latest(), api.ErrState)
			want(t, name+": Merge", p.Merge("x"), api.ErrState)
			for n := range len(p.Wants()) + 3 {
				answers := make([][]byte, n)
				for i := range answers {
					answers[i] = []byte("x")
				}
				if n != len(p.Wants()) {
					want(t, name+": Give", p.Give(answers), api.ErrCount)
				}
			}
		} else {
			for _, answers := range [][][]byte{nil, {}, {nil}, {[]byte("x")}, make([][]byte, 100)} {
				want(t, name+": Give", p.Give(answers), api.ErrState)
			}
			want(t, name+": Quit", p.Quit(), api.ErrState)
		}
		if told(p.c, p.f, p.d) != before || targetsOf(p.c) != wanted || tell(p.c.Result()) != result {
			t.Errorf("%s: a call with an error has changed something", name)
		}
		if under {
			want(t, name+": Quit", p.Quit(), api.OK)
			refused(t, name+": Quit", p.c, api.ErrTimeout)
			want(t, name+": Quit again", p.Quit(), api.ErrState)
		}
		want(t, name+": Latest behind all", p.Latest(), api.OK)
		refusedNow := p.c.Result()
		if refusedNow.Err != api.ErrState {
			t.Errorf("%s: Latest behind all: Result %d", name, int(refusedNow.Err))
		}
	}
}

func TestLookupTargets(t *testing.T) { // P17.3, P17.4: path and version escaped
	c, _, _ := begun(t, configOf(0, 8))
	for _, x := range []struct{ path, version, target string }{
		{"a.com", "v1.0.0", "/lookup/a.com@v1.0.0"}, {"a.com/X/yZ", "v0.1.0-RC1", "/lookup/a.com/!x/y!z@v0.1.0-!r!c1"}, {"a.com/v2", "v2.0.0", "/lookup/a.com/v2@v2.0.0"}, {"a.com", "v2.0.0+incompatible", "/lookup/a.com@v2.0.0+incompatible"}, {"a.com/b~c_d-e", "v0.0.0-20200101000000-abcdefabcdef", "/lookup/a.com/b~c_d-e@v0.0.0-20200101000000-abcdefabcdef"},
		{"a.com/" + strings.Repeat("X", 249), "v1.0.0-" + strings.Repeat("Y", 121), "/lookup/a.com/" + strings.Repeat("!x", 249) + "@v1.0.0-" + strings.Repeat("!y", 121)},
	} {
		want(t, "Lookup of "+x.path, c.Lookup(x.path, x.version), api.OK)
		wants(t, "Lookup of "+x.path, c, x.target)
		want(t, "Quit", c.Quit(), api.OK)
	}
}

func TestAnswersMayComeByPieces(t *testing.T) { // P17.4, P17.5: in every order; those that did not come are wanted still, in their order
	b := newBook(0, 1, recs(0, 13)...)
	path, version := keyOf(6)
	begin := func() *pair {
		p := newPair(t, configOf(0, 1), 40)
		p.Lookup(path, version)
		round(p, b, 13)
		return p
	}
	n := len(begin().Wants())
	if n < 4 {
		t.Fatalf("%d tiles", n)
	}
	for mask := range 1 << n {
		p := begin()
		all := p.Wants()
		want(t, "Give of nothing", p.Give(make([][]byte, n)), api.OK)
		answers := make([][]byte, n)
		var left []string
		for i, w := range all {
			if mask>>i&1 == 1 {
				answers[i] = b.answer(w, 13)
			} else {
				answers[i] = []byte{}
				left = append(left, targetOf(w))
			}
		}
		want(t, "Give", p.Give(answers), api.OK)
		wants(t, "Give", p.c, left...)
		for range len(left) {
			if got := p.c.Result().Err; got != api.ErrState || len(p.c.Facts()) != 0 {
				t.Fatalf("Result = %d with %d answers missing", int(got), len(left))
			}
			answers := make([][]byte, len(p.Wants()))
			last := len(answers) - 1
			answers[last] = b.answer(p.Wants()[last], 13)
			want(t, "Give of the last", p.Give(answers), api.OK)
		}
		results(t, "all have come", p.c, client.Result{Id: 6, Record: b.records[6]})
	}
}

func TestErrorsWaitForAllAnswers(t *testing.T) { // P17.5, P17.9: and then that of the first tile counts, whichever came first
	b := newBook(0, 1, recs(0, 13)...)
	spoils := map[api.Errno][]byte{api.ErrResponse: []byte("x"), api.ErrRefused: answerOf(500, "x"), api.ErrBody: ok("x")}
	kinds := []api.Errno{api.ErrResponse, api.ErrRefused, api.ErrBody}
	for i, first := range kinds {
		for _, second := range kinds {
			p := newPair(t, configOf(0, 1), 40)
			p.Lookup(keyOf(3 * i))
			round(p, b, 13)
			n := len(p.Wants())
			answers := make([][]byte, n)
			answers[n-1] = spoils[second]
			p.Give(answers)
			if len(p.Wants()) != n-1 {
				t.Fatalf("%d wanted of %d", len(p.Wants()), n)
			}
			answers = answers[:n-1]
			for i, w := range p.Wants() {
				answers[i] = b.answer(w, 13)
			}
			answers[1] = spoils[first]
			p.Give(answers)
			refused(t, "two spoilt tiles", p.c, first)
		}
	}
}

func TestQuitForgets(t *testing.T) { // P17.6: what was given; the next task asks for all of it again
	b := newBook(0, 1, recs(0, 13)...)
	p := newPair(t, configOf(0, 1), 40)
	path, version := keyOf(3)
	for range 3 {
		p.Lookup(path, version)
		wants(t, "Lookup", p.c, "/lookup/m.example/!x3@v1.0.0-!r!c1")
		round(p, b, 13)
		tiles := targetsOf(p.c)
		answers := make([][]byte, len(p.Wants()))
		answers[0] = b.answer(p.Wants()[0], 13)
		p.Give(answers)
		want(t, "Quit", p.Quit(), api.OK)
		refused(t, "Quit", p.c, api.ErrTimeout)
		p.Lookup(path, version)
		round(p, b, 13)
		wants(t, "Lookup behind Quit", p.c, strings.Fields(tiles)...)
		p.Quit()
	}
	if p.c.Head().Size != 0 || len(p.f.List()) != 0 || len(p.c.Facts()) != 0 {
		t.Errorf("Head %+v, %d tiles", p.c.Head(), len(p.f.List()))
	}
}

func TestResultIsOfTheLastTask(t *testing.T) { // P17.7: all else zero; a call that began no task changes nothing
	b, fork := newBook(0, 2, recs(0, 7)...), newBook(0, 2, recs(0, 7, 1)...)
	p := newPair(t, configOf(0, 2), 40)
	path, version := keyOf(2)
	found := client.Result{Id: 2, Record: b.records[2]}
	forked := client.Result{Err: api.ErrFork, Fork: client.Fork{Small: []byte(b.note(5)), Great: []byte(fork.note(5)), Root: fork.root(5)}}
	for range 2 {
		p.Lookup(path, version)
		rounds(p, b, 5)
		results(t, "Lookup", p.c, found)
		p.Lookup("A", "v1")
		p.Lookup("a.com", "v1")
		p.Merge(strings.Repeat("x", 65537))
		p.Give(nil)
		p.Quit()
		results(t, "behind calls that began nothing", p.c, found)
		p.Merge(fork.note(5))
		results(t, "a fork", p.c, forked)
		p.Lookup(path, "v1")
		results(t, "a fork, and a call that began nothing", p.c, forked)
		p.Latest()
		if got := p.c.Result(); tell(got) != tell(client.Result{Err: api.ErrState}) {
			t.Errorf("under way: Result = %+v", got)
		}
		rounds(p, b, 5)
		results(t, "Latest", p.c, client.Result{})
		p.Merge("")
		refused(t, "Merge of nothing", p.c, api.ErrNote)
		p.Merge(b.note(4))
		rounds(p, b, 5)
		results(t, "Merge", p.c, client.Result{})
	}
}

func TestMergeEndsAtOnce(t *testing.T) { // P17.3: where nothing has to be read; Merge itself answers OK
	b := newBook(0, 2, recs(0, 7)...)
	for _, x := range headsToRead(2) {
		p := newPair(t, configOf(2, 2), 5)
		e := p.Merge(x.message)
		if len(x.message) > 65536 {
			want(t, x.what, e, api.ErrLong)
			refused(t, x.what, p.c, api.ErrState)
			continue
		}
		want(t, x.what, e, api.OK)
		refused(t, x.what, p.c, x.e)
	}
	p := newPair(t, configOf(0, 2), 5)
	p.Merge(b.note(0))
	results(t, "Merge of no records", p.c, client.Result{})
	if p.c.Head().Size != 0 || len(p.c.Note()) != 0 || len(p.c.Facts()) != 0 || p.d.Acts() != 1 {
		t.Errorf("Merge of no records: Head %+v, Note %q", p.c.Head(), p.c.Note())
	}
	p.Merge(b.note(3))
	p.Merge(b.note(3))
	p.Merge(b.note(0))
	results(t, "Merge of no records again", p.c, client.Result{})
	if p.c.Head() != b.head(3) || len(p.c.Facts()) != 1 {
		t.Errorf("Head %+v, %d facts", p.c.Head(), len(p.c.Facts()))
	}
	want(t, "Merge of a greater head", p.Merge(b.note(7)), api.OK)
	if len(p.Wants()) == 0 || p.c.Result().Err != api.ErrState {
		t.Error("Merge of a greater head wants no tiles")
	}
}
