package witness_test

import (
	"fmt"
	"testing"

	"ledger/api"
	"ledger/note"
	"ledger/witness"
)

// asked: the bytes of an ask.
func asked(t *testing.T, old int64, path []api.Hash, head []byte) []byte {
	t.Helper()
	ask, e := witness.FormatAsk(old, path, head)
	if e != api.OK {
		t.Fatalf("FormatAsk = %d", int(e))
	}
	return ask
}

func TestAnswers(t *testing.T) { // P21.4: every row of the table, and what each of its errors gives
	b := trunk()
	for _, x := range []struct {
		what   string
		ask    []byte
		status int
		body   string
	}{
		{"on", asked(t, 3, b.path(3, 8), b.signed(8)), 200, string(signedBy(b.head(8), logKey, witnessKey))},
		{"the same", asked(t, 3, nil, b.signed(3)), 200, string(signedBy(b.head(3), logKey, witnessKey))},
		{"no ask", nil, 400, "bad request\n"},
		{"a long ask", make([]byte, 69001), 400, "bad request\n"},
		{"ErrAsk", []byte("old 3\n\nhello\n"), 400, "bad request\n"},
		{"a note that is too long", []byte("old 3\n\n" + string(ofBytes(b.head(3), 65537))), 400, "bad request\n"},
		{"ErrLong", asked(t, 3, nil, withLines(b.head(3), 16, false)), 400, "bad request\n"},
		{"ErrHead of no head", asked(t, 3, nil, signText("hello\n", logKey)), 400, "bad request\n"},
		{"ErrHead of no records", asked(t, 0, nil, signedBy(note.Head{Origin: origin}, logKey)), 400, "bad request\n"},
		{"ErrArg", asked(t, 4, nil, b.signed(3)), 400, "bad request\n"},
		{"ErrSignature", asked(t, 3, nil, spoilt(b.signed(3), 0)), 403, "forbidden\n"},
		{"ErrUnsigned", asked(t, 3, nil, signedBy(b.head(3), strangerKey)), 403, "forbidden\n"},
		{"ErrOrigin", asked(t, 3, nil, signedBy(note.Head{Origin: "else", Size: 3}, logKey)), 404, "not found\n"},
		{"ErrConflict", asked(t, 2, b.path(2, 8), b.signed(8)), 409, "3\n"},
		{"ErrConflict, back", asked(t, 1, nil, b.signed(1)), 409, "3\n"},
		{"ErrProofLength", asked(t, 3, nil, b.signed(8)), 422, "unprocessable\n"},
		{"ErrProof", asked(t, 3, turned(b.path(3, 8), 0), b.signed(8)), 422, "unprocessable\n"},
	} {
		p := pairOf(t, 3)
		p.answer(x.ask)
		_, w := begun(t, 3)
		if status, body := w.Answer(x.ask); status != x.status || string(body) != x.body {
			t.Errorf("%s: Answer = %d, %q; want %d, %q", x.what, status, body, x.status, x.body)
		}
	}
}

func TestAnswersOfTheDisk(t *testing.T) { // P21.4: 500 for every error of every act, the last head as it was; and by the room's end
	b := trunk()
	for n := 1; n <= 5; n++ {
		for _, fault := range faults() {
			d, w := begun(t, 3)
			d.Fail(n, fault)
			if status, body := w.Answer(asked(t, 3, b.path(3, 8), b.signed(8))); status != 500 || string(body) != "internal error\n" {
				t.Errorf("act %d answers %d: %d, %q", n, int(fault), status, body)
			}
			has(t, "behind it", w, b.head(3))
		}
	}
	p := newPair(t, config(), 10)
	p.open("w")
	if status := p.answer(asked(t, 0, nil, b.signed(8))); status != 500 {
		t.Errorf("without room: %d", status)
	}
}

func TestSizesOfConflicts(t *testing.T) { // P21.4: m in tens, of the log that the head is of
	other := newBranch(strict, "log.other", logKey+1, grown, 0)
	for _, m := range []int64{1, 9, 10, 17, 281474976710655} {
		w := opened(t, made(t), configOf(origin, "log.other"))
		if _, e := w.Cosign(signedBy(note.Head{Origin: origin, Size: m}, logKey), 0, nil); e != api.OK {
			t.Fatal(e)
		}
		if status, body := w.Answer(asked(t, m+1, nil, signedBy(note.Head{Origin: origin, Size: m + 1}, logKey))); status != 409 || string(body) != fmt.Sprintln(m) {
			t.Errorf("last size %d: %d, %q", m, status, body)
		}
		if status, body := w.Answer(asked(t, 2, nil, other.signed(5))); status != 409 || string(body) != "0\n" {
			t.Errorf("the other log: %d, %q", status, body)
		}
	}
}
