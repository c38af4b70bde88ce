package audit_test

import (
	"slices"
	"strings"
	"testing"

	"ledger/api"
	"ledger/audit"
	"ledger/client"
	"ledger/note"
)

// five: the log of the examples.
func five() *logbook { return newLog(0, 2, recs(0, 7)...) }

func TestExampleNew(t *testing.T) { // example 1: P22.2, P22.3
	a := begun(t, configOf(0, 2))
	want(t, "Result", a.Result(), api.ErrState)
	wants(t, "New", a)
	if h := a.Head(); h != (note.Head{Origin: origin, Root: hashOf(0)}) {
		t.Errorf("Head = %+v", h)
	}
	if string(a.Save()) != "0\n" || len(a.Note()) != 0 {
		t.Errorf("Save = %q, Note = %q", a.Save(), a.Note())
	}
	want(t, "Read", a.Read(), api.OK)
	want(t, "Read again", a.Read(), api.ErrState)
	if w := a.Wants(); len(w) != 1 || string(w[0]) != "GET /latest HTTP/1.1\r\nHost: ledger\r\n\r\n" {
		t.Errorf("Wants = %q", w)
	}
}

func TestExampleReading(t *testing.T) { // examples 2 and 3: P22.1, P22.6
	l := five()
	a := begun(t, configOf(0, 2))
	a.Read()
	round(a, l, 5)
	wants(t, "the head", a, "/tile/2/data/000", "/tile/2/data/001.p/1")
	want(t, "Give of the second", a.Give([][]byte{nil, ok(lengthened(l.records[4]))}), api.OK)
	wants(t, "the second alone", a, "/tile/2/data/000")
	want(t, "Result", a.Result(), api.ErrState)
	want(t, "Give of the first", a.Give([][]byte{ok(lengthened(l.records[:4]...))}), api.OK)
	ended(t, "both tiles", a, api.OK)
	hasRead(t, "both tiles", a, l, 5)
	if r, e := a.Record(4); r != l.records[4] || e != api.OK {
		t.Errorf("Record(4) = %q, %d", r, int(e))
	}
	if r, e := a.Record(5); r != "" || e != api.ErrArg {
		t.Errorf("Record(5) = %q, %d", r, int(e))
	}

	a.Read()
	wants(t, "Read again", a, "/latest")
	round(a, l, 5)
	ended(t, "the log as it was", a, api.OK)
	hasRead(t, "the log as it was", a, l, 5)
	a.Read()
	round(a, l, 7)
	wants(t, "two records more", a, "/tile/2/data/001.p/3")
	round(a, l, 7)
	ended(t, "two records more", a, api.OK)
	hasRead(t, "two records more", a, l, 7)
}

func TestExampleRefusals(t *testing.T) { // example 4: P22.2
	l := five()
	for _, x := range []struct {
		what   string
		answer []byte
		e      api.Errno
	}{
		{"r0 in place of r4", ok(lengthened(l.records[0])), api.ErrAuth},
		{"four records", ok(lengthened(l.records[:4]...)), api.ErrBody},
		{"404", answerOf(404, "Not Found\n"), api.ErrRefused},
	} {
		for _, had := range []int{0, 3} {
			a := loaded(t, configOf(0, 2), l.saved(had))
			a.Read()
			round(a, l, 5)
			want(t, "Give", a.Give([][]byte{ok(lengthened(l.records[:4]...)), x.answer}), api.OK)
			ended(t, x.what, a, x.e)
			hasRead(t, x.what, a, l, had)
		}
	}
}

func TestExampleHeads(t *testing.T) { // example 5: P22.1, P22.2
	l := five()
	other := newLog(0, 2, recs(0, 7, 9)...)
	great := l.head(5)
	great.Size = 65537
	for _, x := range []struct {
		what, message string
		e             api.Errno
	}{
		{"size 3", l.note(3), api.OK}, {"size 3 of another root", other.note(3), api.ErrFork},
		{"size 5 of another root", other.note(5), api.ErrFork}, {"size 65537", signHead(great, l.signer), api.ErrLong},
	} {
		a := at(t, configOf(0, 2), l, 5)
		a.Read()
		want(t, "Give", a.Give([][]byte{ok(x.message)}), api.OK)
		ended(t, x.what, a, x.e)
		hasRead(t, x.what, a, l, 5)
	}
}

func TestExampleRepeats(t *testing.T) { // example 6: P22.4
	l := newLog(0, 2, rec(0), rec(0, 1), rec(1), rec(0))
	a := at(t, configOf(0, 2), l, 4)
	if got := a.Repeats(); !slices.Equal(got, []audit.Repeat{{Key: keyOf(0), I: 0, J: 1}, {Key: keyOf(0), I: 0, J: 3}}) {
		t.Errorf("Repeats = %v", got)
	}
	if got := a.Find(keyOf(0)); !slices.Equal(got, []int64{0, 1, 3}) {
		t.Errorf("Find = %v", got)
	}
}

func TestExampleStates(t *testing.T) { // example 7: P22.3
	l := five()
	c := configOf(0, 2)
	s := string(at(t, c, l, 5).Save())
	a := loaded(t, c, s)
	hasRead(t, "Load of Save", a, l, 5)
	other := c
	_, other.Verifier = keysOf(origin, 2)
	for _, x := range []struct {
		what  string
		c     client.Config
		state string
	}{
		{"without the last byte", c, s[:len(s)-1]}, {"with a byte more", c, s + "\x00"}, {"with a zero ahead", c, "0" + s},
		{"00", c, "00\n"}, {"under another verifier", other, s},
	} {
		if a, e := audit.Load(x.c, []byte(x.state)); a != nil || e != api.ErrSaved {
			t.Errorf("Load %s = %v, %d", x.what, a != nil, int(e))
		}
	}
}

func TestExampleHolds(t *testing.T) { // example 8: P22.5
	l := five()
	a := at(t, configOf(0, 2), l, 5)
	other := newLog(0, 2, recs(0, 9, 9)...)
	longer := newLog(0, 2, recs(0, 9)...)
	f := l.factOf(2, 3)
	want(t, "Holds", a.Holds(f), api.OK)
	r1 := f
	r1.Record = l.records[1]
	want(t, "Holds with r1", a.Holds(r1), api.ErrTranscript)
	moved := f
	moved.Kind = client.Moved
	want(t, "Holds of Moved", a.Holds(moved), api.ErrArg)
	want(t, "Holds of size 9", a.Holds(longer.factOf(2, 9)), api.ErrArg)
	want(t, "Holds of another log", a.Holds(other.factOf(2, 3)), api.ErrNothing)
}

func TestExampleWeak(t *testing.T) { // example 9: P22.5
	l := newLog(1, 2, recs(0, 5)...)
	a := at(t, configOf(1, 2), l, 5)
	for i := range 10000 {
		if r := rec(2, byte(i), byte(i>>8), 1); leafOf(1, r) == leafOf(1, l.records[2]) {
			f := l.factOf(2, 5)
			f.Record = r
			want(t, "Holds", a.Holds(f), api.ErrInclusion)
			return
		}
	}
	t.Error("no record of r2's leaf hash")
}

func TestExampleQuit(t *testing.T) { // example 10: P22.2
	a := begun(t, configOf(0, 2))
	want(t, "Quit", a.Quit(), api.ErrState)
	a.Read()
	want(t, "Quit behind Read", a.Quit(), api.OK)
	ended(t, "Quit behind Read", a, api.ErrTimeout)
	want(t, "Quit again", a.Quit(), api.ErrState)
}

func TestSaveInBytes(t *testing.T) { // P22.3: the form, byte by byte
	l := newLog(0, 2, rec(0), rec(7, 3))
	a := at(t, configOf(0, 2), l, 2)
	r0, r1, message := rec(0), rec(7, 3), l.note(2)
	if len(r0) != 151 || len(r1) != 151 || len(message) != 125 {
		t.Fatalf("the records have %d and %d bytes, the note %d", len(r0), len(r1), len(message))
	}
	right := "125\n" + message + "\x00\x97" + r0 + "\x00\x97" + r1
	if got := string(a.Save()); got != right {
		t.Errorf("Save = %q; want %q", got, right)
	}
	path := "m.example/" + strings.Repeat("y", 245)
	version := "v1.0.0-" + strings.Repeat("z", 121)
	long := longRecord(path, version)
	l = newLog(0, 2, long)
	if len(long) != 873 { // 3 times 256, and 105
		t.Fatalf("the longest record has %d bytes", len(long))
	}
	if got := string(at(t, configOf(0, 2), l, 1).Save()); !strings.HasSuffix(got, "\n\x03\x69"+long) {
		t.Errorf("Save = %q", got)
	}
}
