package client_test

import (
	"testing"

	"ledger/api"
	"ledger/client"
	"ledger/modver"
	"ledger/note"
	"ledger/proof"
	"ledger/server"
	"ledger/tlog"
)

// named: a record of these, with a sum.
func named(path, version string, sum byte) string {
	r, e := modver.Record(path, version, [32]byte{sum}, [32]byte{sum})
	if e != api.OK {
		panic(e)
	}
	return r
}

// examples: the log of the chapter's examples, and what it will have of two records more.
func examples() *book {
	return newBook(0, 8, named("b.org", "v1.0.0", 1), named("a.com", "v1.0.0", 1), named("a.com", "v1.1.0", 1), named("d.d", "v1.0.0", 1), named("e.e", "v1.0.0", 1))
}

func others() *book {
	return newBook(0, 8, named("b.org", "v1.0.0", 2), named("a.com", "v1.0.0", 2), named("a.com", "v1.1.0", 2), named("d.d", "v1.0.0", 2), named("e.e", "v1.0.0", 2))
}

// serve: the log answers all that is wanted now.
func serve(c asker, s *server.Server) {
	var answers [][]byte
	for _, w := range c.Wants() {
		answers = append(answers, s.Serve(w))
	}
	c.Give(answers)
}

func (b *book) leaf(i int) api.Hash { return tlog.LeafHash(b.k, []byte(b.records[i])) }

func isFact(t *testing.T, what string, got, want client.Fact) {
	t.Helper()
	if tell(got) != tell(want) {
		t.Errorf("%s: the fact %s; want %s", what, tell(got), tell(want))
	}
}

func TestExamplesOfLookups(t *testing.T) { // P17.3, P17.4, P17.7, P17.8, P17.9: examples 1 and 2
	b := examples()
	s := logOf(t, b, 3)
	c, f, _ := begun(t, configOf(0, 8))
	want(t, "Lookup", c.Lookup("a.com", "v1.0.0"), api.OK)
	if w := c.Wants(); len(w) != 1 || string(w[0]) != "GET /lookup/a.com@v1.0.0 HTTP/1.1\r\nHost: ledger\r\n\r\n" {
		t.Errorf("Wants = %q", w)
	}
	serve(c, s)
	if w := c.Wants(); len(w) != 1 || string(w[0]) != "GET /tile/8/0/000.p/3 HTTP/1.1\r\nHost: ledger\r\n\r\n" {
		t.Errorf("Wants = %q", w)
	}
	serve(c, s)
	results(t, "Lookup", c, client.Result{Id: 1, Record: b.records[1]})
	facts := c.Facts()
	if c.Head() != b.head(3) || string(c.Note()) != b.note(3) || string(f.Head()) != b.note(3) || len(facts) != 2 {
		t.Fatalf("the head %+v, %d facts", c.Head(), len(facts))
	}
	none := note.Head{Origin: origin, Root: tlog.EmptyHash(0)}
	accepted := client.Fact{Kind: client.Accepted, Path: "a.com", Version: "v1.0.0", Id: 1, Record: b.records[1], Head: b.head(3), Proof: []api.Hash{b.leaf(0), b.leaf(2)}}
	isFact(t, "Lookup", facts[0], client.Fact{Kind: client.Moved, Old: none, Head: b.head(3), Note: []byte(b.note(3))})
	isFact(t, "Lookup", facts[1], accepted)

	c.Lookup("a.com", "v1.0.0")
	wants(t, "Lookup again", c, "/lookup/a.com@v1.0.0")
	serve(c, s)
	results(t, "Lookup again", c, client.Result{Id: 1, Record: b.records[1]})
	if facts = c.Facts(); len(facts) != 3 {
		t.Fatalf("%d facts", len(facts))
	}
	isFact(t, "Lookup again", facts[2], accepted)
}

func TestExampleOfLatest(t *testing.T) { // P17.3, P17.8, P17.9: example 3
	b := examples()
	s := logOf(t, b, 3)
	c, _, _ := begun(t, configOf(0, 8))
	c.Lookup("a.com", "v1.0.0")
	serve(c, s)
	serve(c, s)
	want(t, "Latest", c.Latest(), api.OK)
	if w := c.Wants(); len(w) != 1 || string(w[0]) != "GET /latest HTTP/1.1\r\nHost: ledger\r\n\r\n" {
		t.Errorf("Wants = %q", w)
	}
	serve(c, s)
	results(t, "Latest of three records", c, client.Result{})
	if len(c.Facts()) != 2 {
		t.Errorf("Latest of three records: %d facts", len(c.Facts()))
	}
	s.Append(b.records[3:])
	c.Latest()
	serve(c, s)
	wants(t, "Latest of five records", c, "/tile/8/0/000.p/5")
	serve(c, s)
	results(t, "Latest of five records", c, client.Result{})
	facts := c.Facts()
	if len(facts) != 3 || c.Head() != b.head(5) {
		t.Fatalf("Latest of five records: the head %+v, %d facts", c.Head(), len(facts))
	}
	way, _ := proof.Tree(0, b.stored, 5, 3)
	isFact(t, "Latest of five records", facts[2], client.Fact{Kind: client.Moved, Old: b.head(3), Head: b.head(5), Proof: way, Note: []byte(b.note(5))})
}

func TestExamplesOfAnswers(t *testing.T) { // P17.5, P17.6, P17.9: examples 4 to 6
	b := examples()
	c, f, d := begun(t, configOf(0, 8))
	before := told(c, f, d)
	c.Lookup("a.com", "v1.0.0")
	want(t, "Give of none", c.Give([][]byte{nil}), api.OK)
	wants(t, "Give of none", c, "/lookup/a.com@v1.0.0")
	want(t, "Quit", c.Quit(), api.OK)
	refused(t, "Quit", c, api.ErrTimeout)

	right := ok(b.body(1, 3))
	signer, _ := keysOf(origin, 2)
	for _, x := range []struct {
		what   string
		answer []byte
		e      api.Errno
	}{
		{"404", answerOf(404, "Not Found\n"), api.ErrRefused}, {"cut by a byte", right[:len(right)-1], api.ErrResponse}, {"a byte behind it", append(right[:len(right):len(right)], 'x'), api.ErrResponse}, {"too long", ok(string(make([]byte, limit))), api.ErrResponse},
		{"another record", ok(b.body(2, 3)), api.ErrOther}, {"another key", ok(b.signedBy(signer, origin).body(1, 3)), api.ErrUnsigned}, {"another origin", ok(b.signedBy(b.signer, "other").body(1, 3)), api.ErrOrigin},
	} {
		c.Lookup("a.com", "v1.0.0")
		want(t, x.what, c.Give([][]byte{x.answer}), api.OK)
		refused(t, x.what, c, x.e)
	}
	if told(c, f, d) != before {
		t.Errorf("behind the refusals:\n%s; was\n%s", told(c, f, d), before)
	}
}

func TestExampleOfTiles(t *testing.T) { // P17.9: example 7
	b := examples()
	c, f, d := begun(t, configOf(0, 8))
	before := told(c, f, d)
	_, data := b.tell("/tile/8/0/000.p/3", 3)
	for _, x := range []struct {
		data string
		e    api.Errno
	}{{string(unlike([]byte(data), 40)), api.ErrAuth}, {data[1:], api.ErrBody}} {
		c.Lookup("a.com", "v1.0.0")
		round(c, b, 3)
		c.Give([][]byte{ok(x.data)})
		refused(t, "a spoilt tile", c, x.e)
	}
	if told(c, f, d) != before {
		t.Errorf("behind the refusals:\n%s; was\n%s", told(c, f, d), before)
	}
}

func TestExampleOfForks(t *testing.T) { // P17.7, P17.9: example 8
	b, o := examples(), others()
	c, f, d := begun(t, configOf(0, 8))
	c.Lookup("a.com", "v1.0.0")
	rounds(c, b, 3)
	before := told(c, f, d)
	c.Latest()
	round(c, o, 3)
	results(t, "another head of three", c, client.Result{Err: api.ErrFork, Fork: client.Fork{Small: []byte(b.note(3)), Great: []byte(o.note(3)), Root: o.root(3)}})
	c.Latest()
	round(c, o, 5)
	wants(t, "a head of five", c, "/tile/8/0/000.p/5")
	round(c, o, 5)
	way, _ := proof.Tree(0, o.stored, 5, 3)
	results(t, "a head of five", c, client.Result{Err: api.ErrFork, Fork: client.Fork{Small: []byte(b.note(3)), Great: []byte(o.note(5)), Root: o.root(3), Proof: way}})
	if told(c, f, d) != before {
		t.Errorf("behind the forks:\n%s; was\n%s", told(c, f, d), before)
	}
}

func TestExampleOfAnOlderHead(t *testing.T) { // P17.8, P17.9: example 9
	b := examples()
	c, _, _ := at(t, configOf(0, 8), b, 5)
	c.Lookup("a.com", "v1.0.0")
	round(c, b, 3)
	wants(t, "an older head", c, "/tile/8/0/000.p/5")
	round(c, b, 5)
	results(t, "an older head", c, client.Result{Id: 1, Record: b.records[1]})
	facts := c.Facts()
	if len(facts) != 3 || c.Head() != b.head(5) {
		t.Fatalf("an older head: the head %+v, %d facts", c.Head(), len(facts))
	}
	tree, _ := proof.Tree(0, b.stored, 5, 3)
	way, _ := proof.Record(0, b.stored, 5, 1)
	isFact(t, "an older head", facts[1], client.Fact{Kind: client.Agreed, Old: b.head(3), Head: b.head(5), Proof: tree, Note: []byte(b.note(3))})
	isFact(t, "an older head", facts[2], client.Fact{Kind: client.Accepted, Path: "a.com", Version: "v1.0.0", Id: 1, Record: b.records[1], Head: b.head(5), Proof: way})
}

func TestExampleOfNoTask(t *testing.T) { // P17.3, P17.7: example 10
	c, _, _ := begun(t, configOf(0, 8))
	want(t, "Lookup(A, v1)", c.Lookup("A", "v1"), api.ErrModPath)
	want(t, "Lookup(a.com/v2, v1.0.0)", c.Lookup("a.com/v2", "v1.0.0"), api.ErrVersion)
	refused(t, "no task", c, api.ErrState)
	want(t, "Merge of no bytes", c.Merge(nil), api.OK)
	refused(t, "Merge of no bytes", c, api.ErrNote)
}
