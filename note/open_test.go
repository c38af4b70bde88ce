package note_test

import (
	"bytes"
	"slices"
	"strings"
	"testing"

	"ledger/api"
	"ledger/note"
)

func opens(t *testing.T, message string, verifiers []string, body string, good, unverified []note.Signature) {
	t.Helper()
	n, e := note.Open([]byte(message), verifiers)
	if e != api.OK || n.Text != body || !sameSignatures(n.Good, good) || !sameSignatures(n.Unverified, unverified) {
		t.Errorf("Open(%.80q, %d keys): %v, %d, want %v and %v", message, len(verifiers), n, e, good, unverified)
	}
}

func openRefuses(t *testing.T, message string, verifiers []string, want api.Errno) {
	t.Helper()
	n, e := note.Open([]byte(message), verifiers)
	if e != want || n.Text != "" || len(n.Good) != 0 || len(n.Unverified) != 0 {
		t.Errorf("Open(%.80q, %d keys): %v, %d, want %d", message, len(verifiers), n, e, want)
	}
}

// list: of some signatures.
func list(sigs ...note.Signature) []note.Signature { return sigs }

func TestOpenExamples(t *testing.T) { // P7.11
	one := signedBy("log.example", 1, up(), "hello\n")
	opens(t, note1, []string{verifier1}, "hello\n", list(one), nil)
	opens(t, note1, []string{verifier1, verifier2}, "hello\n", list(one), nil)
	opens(t, note1, []string{verifier2, verifier1}, "hello\n", list(one), nil)
	openRefuses(t, note1, []string{verifier2}, api.ErrUnsigned)
	openRefuses(t, note1, []string{verifier1, verifier1}, api.ErrTwice)
	openRefuses(t, note1, nil, api.ErrUnsigned)
	openRefuses(t, note1, []string{}, api.ErrUnsigned)
	openRefuses(t, "hellO\n\n"+line1, []string{verifier1}, api.ErrSignature)
	openRefuses(t, "hellO\n\n"+line1, []string{verifier3}, api.ErrUnsigned)
}

func TestOpenOfEachText(t *testing.T) { // P7.11, P7.9
	for _, body := range someTexts() {
		a, b, c := signedBy("a", 1, up(), body), signedBy("a", 2, up(), body), signedBy("c", 2, up(), body)
		keyA, keyB, keyC := verifierOf("a", 1, keyOf(1, up())), verifierOf("a", 2, keyOf(2, up())), verifierOf("c", 2, keyOf(2, up()))
		message := noteOf(body, a, b, c)
		opens(t, message, []string{keyA}, body, list(a), list(b, c))
		opens(t, message, []string{keyC, keyA}, body, list(a, c), list(b)) // in the note's order
		opens(t, message, []string{keyC, keyB, keyA}, body, list(a, b, c), nil)
		openRefuses(t, noteOf("x"+body, a, b, c), []string{keyA}, api.ErrSignature)
		openRefuses(t, noteOf("x"+body, a, b, c), []string{keyB}, api.ErrSignature)
		openRefuses(t, noteOf("\n"+body, a, b, c), []string{keyC}, api.ErrSignature) // the last line's end is signed, and each one ahead
	}
}

func TestOpenKnowsByNameAndHash(t *testing.T) { // P7.11
	mine := signedBy("witness", 2, up(), "a\n")
	name, hash := mine, mine
	name.Name = "witnesses"
	hash.Hash++
	opens(t, noteOf("a\n", name, mine, hash), []string{verifier3}, "a\n", list(mine), list(name, hash))
	openRefuses(t, noteOf("a\n", name, hash), []string{verifier3}, api.ErrUnsigned)
}

func TestOpenLeavesRepeatsOut(t *testing.T) { // P7.11
	mine := signedBy("witness", 2, up(), "a\n")
	bad := mine
	bad.Bytes = []byte("bad")
	x, y := note.Signature{Name: "a", Hash: 7, Bytes: []byte("x")}, note.Signature{Name: "a", Hash: 7, Bytes: []byte("y")}
	opens(t, noteOf("a\n", mine, mine), []string{verifier3}, "a\n", list(mine), nil)
	opens(t, noteOf("a\n", mine, bad), []string{verifier3}, "a\n", list(mine), nil)
	openRefuses(t, noteOf("a\n", bad, mine), []string{verifier3}, api.ErrSignature)
	opens(t, noteOf("a\n", x, mine, y, x), []string{verifier3}, "a\n", list(mine), list(x))
	opens(t, noteOf("a\n", y, x, mine), []string{verifier3}, "a\n", list(mine), list(y))
	opens(t, noteOf("a\n", slices.Repeat(list(mine), 16)...), []string{verifier3}, "a\n", list(mine), nil)
}

func TestOpenRefusesFalseSignatures(t *testing.T) { // P7.11
	for alg, verifier := range map[int]string{1: verifierOf("a", 1, keyOf(1, up())), 2: verifierOf("a", 2, keyOf(2, up()))} {
		right := signedBy("a", alg, up(), "a\n")
		refuse := func(b []byte) {
			t.Helper()
			s := right
			s.Bytes = b
			openRefuses(t, noteOf("a\n", s), []string{verifier}, api.ErrSignature)
			openRefuses(t, noteOf("a\n", signedBy("witness", 2, up(), "a\n"), s), []string{verifier3, verifier}, api.ErrSignature)
		}
		for i := range right.Bytes {
			b := bytes.Clone(right.Bytes)
			b[i] ^= 1
			refuse(b)
		}
		refuse(right.Bytes[:len(right.Bytes)-1])
		refuse(append(bytes.Clone(right.Bytes), 0))
		refuse([]byte{0})
		refuse(make([]byte, 32))
		refuse(make([]byte, 64))
	}
}

func TestOpenWithKeysOfNoSeed(t *testing.T) { // P7.4, P7.11
	identity := [32]byte{1}
	anything := make([]byte, 64)
	anything[0] = 1 // R is the identity's form, S is 0
	good := note.Signature{Name: "a", Hash: hashOf("a", 1, identity), Bytes: anything}
	opens(t, noteOf("a\n", good), []string{verifierOf("a", 1, identity)}, "a\n", list(good), nil)

	noPoint := [32]byte{2}
	bad := note.Signature{Name: "a", Hash: hashOf("a", 1, noPoint), Bytes: anything}
	openRefuses(t, noteOf("a\n", bad), []string{verifierOf("a", 1, noPoint)}, api.ErrSignature)
	opens(t, noteOf("a\n", bad, good), []string{verifierOf("a", 1, identity)}, "a\n", list(good), list(bad))
}

func TestOpenWithTwoOfOneHash(t *testing.T) { // P7.11
	a, b := sameHash("w")
	l := []string{verifierOf("w", 2, keyOf(2, a)), verifierOf("w", 2, keyOf(2, b))}
	mine := signedBy("w", 2, a, "a\n")
	openRefuses(t, noteOf("a\n", mine), l, api.ErrTwice)
	opens(t, noteOf("a\n", mine), l[:1], "a\n", list(mine), nil)
	openRefuses(t, noteOf("a\n", mine), l[1:], api.ErrSignature)
}

func TestOpenOrderOfErrors(t *testing.T) { // P7.11, P0.1
	long := strings.Repeat("x", 65537)
	openRefuses(t, long, []string{"x"}, api.ErrLong)
	openRefuses(t, long, nil, api.ErrLong)
	openRefuses(t, "hello", slices.Repeat([]string{"x"}, 17), api.ErrLong)
	openRefuses(t, "hello", slices.Repeat([]string{"x"}, 16), api.ErrKeyText)
	openRefuses(t, "hello\n", []string{verifier1, verifier1, "x"}, api.ErrKeyText)
	openRefuses(t, "hello\n", []string{signer1}, api.ErrKeyText)
	openRefuses(t, "hello\n", []string{verifier1, "a b+b252d0cf+AQ==", "x"}, api.ErrName)
	openRefuses(t, "hello\n", []string{verifier1, "a+b252d0cf+AQ==", "x"}, api.ErrAlg)
	openRefuses(t, "hello\n", []string{verifier1, "b" + verifier1, "x"}, api.ErrKeyHash)
	openRefuses(t, "hello\n", []string{verifier1, verifier3, verifier1}, api.ErrTwice)
	openRefuses(t, "hello\n", []string{verifier1}, api.ErrNote)
	openRefuses(t, "hello\n", nil, api.ErrNote)
	openRefuses(t, "hello\n\n\u2014 witness YYAKxw==\n", []string{verifier3}, api.ErrNote)
	openRefuses(t, "hellO\n\n"+other+line1+line3, []string{verifier1, verifier3}, api.ErrSignature)
	openRefuses(t, note1+"\u2014 witness YYAKx0g=\n", []string{verifier1, verifier3}, api.ErrSignature) // one right one is not enough
	openRefuses(t, "hello\n\n"+other, []string{verifier1}, api.ErrUnsigned)
}

func TestOpenOfMany(t *testing.T) { // P7.11
	var l []string
	for i := range 16 {
		l = append(l, verifierOf("w", 2, keyOf(2, drillSeed(i))))
	}
	sigs := drillLines("w", 16, "a\n")
	opens(t, noteOf("a\n", sigs...), l, "a\n", sigs, nil)
	opens(t, noteOf("a\n", sigs...), l[7:8], "a\n", sigs[7:8], slices.Concat(sigs[:7], sigs[8:]))
	body := filled(65536 - len(noteOf("", signedBy("w", 2, drillSeed(0), ""))))
	opens(t, noteOf(body, signedBy("w", 2, drillSeed(0), body)), l, body, list(signedBy("w", 2, drillSeed(0), body)), nil)
}
