package witness_test

import (
	"fmt"
	"strings"
	"testing"

	"ledger/api"
	"ledger/disk"
	"ledger/note"
	"ledger/tlog"
	"ledger/witness"
)

func TestExampleOfOpen(t *testing.T) { // P21.1, P21.2: example 1
	d := made(t)
	w := opened(t, d, config())
	if d.Acts() != 1 || d.Pending() != 0 || len(d.Files()) != 0 {
		t.Errorf("%d acts, %d pending, files %s", d.Acts(), d.Pending(), names(d))
	}
	has(t, "at first", w, note.Head{Origin: origin, Root: tlog.EmptyHash(strict)})
	if h, ok := w.Head("x"); ok || h != (note.Head{}) {
		t.Errorf("Head(x) = %+v, %v", h, ok)
	}
	many := config()
	for i := range 16 {
		many.Logs = append(many.Logs, witness.Log{Origin: fmt.Sprint("log", i), Verifier: verifierOf(1)})
	}
	twice := config()
	twice.Logs = append(twice.Logs, twice.Logs[0])
	other := config()
	other.Signer = verifierOf(witnessKey)
	for _, x := range []struct {
		name string
		c    witness.Config
		e    api.Errno
	}{{"W", config(), api.ErrFile}, {"", config(), api.ErrFile}, {"w", many, api.ErrConfig}, {"w", twice, api.ErrConfig}, {"w", other, api.ErrConfig}} {
		if w, e := witness.Open(made(t), x.name, x.c); w != nil || e != x.e {
			t.Errorf("Open(%q) = %v, %d; want %d", x.name, w != nil, int(e), int(x.e))
		}
	}
}

// signs: the note has just these signatures, each of which verifies.
func signs(t *testing.T, message []byte, seeds ...byte) {
	t.Helper()
	var verifiers []string
	for _, s := range seeds {
		verifiers = append(verifiers, verifierOf(s))
	}
	if n, e := note.Open(message, verifiers); e != api.OK || len(n.Good) != len(seeds) || len(n.Unverified) != 0 {
		t.Errorf("%q is not signed by %v: %d", message, seeds, int(e))
	}
}

func TestExamplesOfCosign(t *testing.T) { // P21.3: examples 2 to 5
	b := trunk()
	d := made(t)
	w := opened(t, d, config())
	acts := func(what string, n int) {
		t.Helper()
		if d.Acts() != n {
			t.Errorf("%s: %d acts; want %d", what, d.Acts(), n)
		}
	}
	signs(t, cosigned(t, w, b, 0, 0), logKey, witnessKey)
	acts("h0", 1)
	first := cosigned(t, w, b, 0, 1)
	signs(t, first, logKey, witnessKey)
	acts("h1", 6)
	if told(d.Files()) != told([]disk.File{{Name: file, Data: []byte(textOf(b.head(1)))}}) {
		t.Errorf("the disk has\n%s", told(d.Files()))
	}
	refuses(t, "h1 from 0 again", w, b.signed(1), 0, nil, api.ErrConflict)
	if again := cosigned(t, w, b, 1, 1); string(again) != string(first) {
		t.Errorf("h1 again: %q; first %q", again, first)
	}
	acts("h1 again", 6)
	p13 := b.path(1, 3)
	refuses(t, "h3 from 0", w, b.signed(3), 0, nil, api.ErrConflict)
	refuses(t, "h3 without a proof", w, b.signed(3), 1, nil, api.ErrProofLength)
	refuses(t, "h3 with a bit turned", w, b.signed(3), 1, turned(p13, 0), api.ErrProof)
	refuses(t, "h3 from 4", w, b.signed(3), 4, p13, api.ErrArg)
	signs(t, cosigned(t, w, b, 1, 3), logKey, witnessKey)
	acts("h3", 11)
	refuses(t, "h1 from 3", w, b.signed(1), 3, nil, api.ErrArg)
	refuses(t, "h1 from 1", w, b.signed(1), 1, nil, api.ErrConflict)
	refuses(t, "another h3", w, parted(2).signed(3), 3, nil, api.ErrProof)
	has(t, "behind h3", w, b.head(3))

	_, w = begun(t)
	refuses(t, "another origin", w, signedBy(note.Head{Origin: "else", Size: 1, Root: b.root(1)}, logKey), 0, nil, api.ErrOrigin)
	refuses(t, "another key", w, signedBy(b.head(1), strangerKey), 0, nil, api.ErrUnsigned)
	refuses(t, "other bytes", w, spoilt(b.signed(1), 0), 0, nil, api.ErrSignature)
	refuses(t, "hello", w, signText("hello\n", logKey), 0, nil, api.ErrHead)
}

func TestExampleOfFaults(t *testing.T) { // P21.1, P21.3, P21.7: example 6
	b := trunk()
	d, w := begun(t)
	d.Fail(5, api.ErrIO)
	refuses(t, "the fifth act", w, b.signed(1), 0, nil, api.ErrIO)
	has(t, "behind it", w, b.head(0))
	has(t, "opened anew", opened(t, d, config()), b.head(1))
	has(t, "behind a crash", opened(t, d.Crash(nil), config()), b.head(1))

	d, w = begun(t)
	d.Fail(2, api.ErrIO)
	refuses(t, "the second act", w, b.signed(1), 0, nil, api.ErrIO)
	if names(d) != file+".new" {
		t.Errorf("the disk has %s", names(d))
	}
	has(t, "opened anew", opened(t, d, config()), b.head(0))
	if names(d) != "" {
		t.Errorf("behind Open the disk has %s", names(d))
	}
}

func TestExamplesOfAnswer(t *testing.T) { // P21.4, P21.5: examples 7 and 8
	b := trunk()
	p13 := b.path(1, 3)
	ask, e := witness.FormatAsk(1, p13, b.signed(3))
	lines := strings.SplitAfter(string(ask), "\n")
	if e != api.OK || lines[0] != "old 1\n" || len(p13) != 2 || len(lines[1]) != 45 || len(lines[2]) != 45 || lines[3] != "\n" || strings.Join(lines[4:], "") != string(b.signed(3)) {
		t.Fatalf("FormatAsk = %q, %d", ask, int(e))
	}
	_, w := begun(t, 1)
	if status, body := w.Answer(ask); status != 200 || string(body) != string(signedBy(b.head(3), logKey, witnessKey)) {
		t.Errorf("Answer = %d, %q", status, body)
	}
	unknown, _ := witness.FormatAsk(0, nil, signedBy(note.Head{Origin: "else", Size: 1}, logKey))
	wrong, _ := witness.FormatAsk(3, turned(b.path(3, 7), 1), b.signed(7))
	for _, x := range []struct {
		ask    string
		status int
		body   string
	}{
		{string(ask), 409, "3\n"},
		{"old 01\n\n" + string(b.signed(3)), 400, "bad request\n"},
		{"old 3\n" + lines[1][:43] + "\n\n" + string(b.signed(3)), 400, "bad request\n"},
		{"old 3\n\n" + textOf(b.head(3)), 400, "bad request\n"},
		{string(unknown), 404, "not found\n"},
		{string(wrong), 422, "unprocessable\n"},
	} {
		if status, body := w.Answer([]byte(x.ask)); status != x.status || string(body) != x.body {
			t.Errorf("Answer(%.60q) = %d, %q; want %d, %q", x.ask, status, body, x.status, x.body)
		}
	}
}

func TestExampleOfQuorum(t *testing.T) { // P21.6: example 9
	_, w := begun(t)
	m := cosigned(t, w, trunk(), 0, 1)
	log, own, stranger := verifierOf(logKey), verifierOf(witnessKey), verifierOf(strangerKey)
	for _, x := range []struct {
		verifiers []string
		need      int
		e         api.Errno
	}{
		{[]string{log, own}, 1, api.OK}, {[]string{log, own}, 2, api.OK}, {[]string{log, own}, 3, api.ErrArg}, {[]string{log, own}, 0, api.ErrArg},
		{[]string{own, stranger}, 1, api.OK}, {[]string{own, stranger}, 2, api.ErrQuorum}, {[]string{stranger}, 1, api.ErrUnsigned}, {[]string{log, log}, 1, api.ErrTwice},
	} {
		want(t, fmt.Sprintf("Quorum with %v, need %d", x.verifiers, x.need), witness.Quorum(m, x.verifiers, x.need), x.e)
	}
}

func TestExampleOfBroken(t *testing.T) { // P21.1: example 10
	b := trunk()
	for _, data := range []string{textOf(note.Head{Origin: "else", Size: 1}), textOf(b.head(0)), textOf(b.head(1)) + "\n"} {
		d := made(t, disk.File{Name: file, Data: []byte(data)})
		if w, e := witness.Open(d, "w", config()); w != nil || e != api.ErrBroken {
			t.Errorf("Open with %q = %v, %d", data, w != nil, int(e))
		}
		before := told(d.Files())
		opened(t, d, configOf("else"))
		if told(d.Files()) != before {
			t.Errorf("an unknown log's file is changed:\n%s", told(d.Files()))
		}
	}
}
