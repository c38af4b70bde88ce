package note_test

import (
	"bytes"
	"fmt"
	"slices"
	"strings"
	"sync"
	"testing"

	"ledger/api"
	"ledger/note"
)

// roomy: the items with room behind them, which an append would fill, and all of it.
func roomy[T any](items []T, rest ...T) (given, all []T) {
	all = slices.Concat(items, rest)
	return all[:len(items)], all
}

// spoil: overwrites bytes and the room behind them.
func spoil(b []byte) {
	b = b[:cap(b)]
	for i := range b {
		b[i] ^= 0xff
	}
}

// spoilSignatures: overwrites the list and the room behind it, and the bytes of each.
func spoilSignatures(sigs []note.Signature) {
	sigs = sigs[:cap(sigs)]
	for i := range sigs {
		spoil(sigs[i].Bytes)
		sigs[i] = note.Signature{Name: "else"}
	}
}

func TestKeysAreNotChangedOrKept(t *testing.T) { // P7.14, P0.2
	want := keyOf(1, up())
	key, all := roomy(want[:], 1, 2, 3, 4)
	hash, _ := note.KeyHash("log.example", 1, key)
	s, _ := note.FormatVerifier(note.Verifier{Name: "log.example", Hash: hash, Alg: 1, Key: key})
	if !bytes.Equal(all, append(want[:], 1, 2, 3, 4)) {
		t.Error("a key that was handed in, or the room behind it, is changed")
	}
	spoil(all)
	if s != verifier1 {
		t.Errorf("the text goes on sharing the key's memory: %q", s)
	}
}

func TestKeysOfAnswersAreNew(t *testing.T) { // P7.14, P0.2
	first, _ := note.ParseVerifier(verifier1)
	second, _ := note.ParseVerifier(verifier1)
	spoil(first.Key)
	if want := keyOf(1, up()); !bytes.Equal(second.Key, want[:]) {
		t.Error("two answers of ParseVerifier share memory")
	}
	parsed(t, verifier1)
}

func TestFormatChangesNothing(t *testing.T) { // P7.14, P0.2
	var sigs, whole []note.Signature
	for _, s := range someSignatures() {
		s.Bytes, _ = roomy(s.Bytes, 1, 2, 3, 4, 5, 6, 7, 8)
		sigs = append(sigs, s)
	}
	sigs, whole = roomy(sigs, note.Signature{Name: "behind"}, note.Signature{Name: "it"})
	first, _ := note.Format("a\n", sigs)
	second, _ := note.Format("a\n", sigs)
	if !sameSignatures(sigs, someSignatures()) || whole[len(sigs)].Name != "behind" || whole[len(sigs)+1].Name != "it" {
		t.Error("the list that was handed in, or the room behind it, is changed")
	}
	for _, s := range sigs {
		if !bytes.Equal(s.Bytes[:len(s.Bytes)+8][len(s.Bytes):], []byte{1, 2, 3, 4, 5, 6, 7, 8}) {
			t.Error("the room behind a signature's bytes is changed")
		}
	}
	spoilSignatures(whole)
	spoil(first)
	if string(second) != noteOf("a\n", someSignatures()...) {
		t.Error("an answer of Format shares memory with its arguments or with another answer")
	}
	formats(t, "a\n", someSignatures(), noteOf("a\n", someSignatures()...), api.OK)
}

func TestSplitSharesNothing(t *testing.T) { // P7.14, P0.2
	want := noteOf("a\n", someSignatures()...)
	message, all := roomy([]byte(want), []byte("behind it")...)
	body, sigs, _ := note.Split(message)
	_, other, _ := note.Split(message)
	if string(all) != want+"behind it" {
		t.Error("the message that was handed in, or the room behind it, is changed")
	}
	spoil(all)
	spoilSignatures(other)
	if body != "a\n" || !sameSignatures(sigs, someSignatures()) {
		t.Error("an answer of Split shares memory with the message or with another answer")
	}
	for i := range sigs { // nor do the lists of one answer share any
		spoil(sigs[i].Bytes)
		for j := i + 1; j < len(sigs); j++ {
			if !bytes.Equal(sigs[j].Bytes, someSignatures()[j].Bytes) {
				t.Errorf("the bytes of signatures %d and %d share memory", i, j)
			}
		}
	}
	splits(t, want, "a\n", someSignatures(), api.OK)
}

func TestSignSharesNothing(t *testing.T) { // P7.14, P0.2
	signers, all := roomy([]string{signer1, signer3}, "behind", "it")
	first, _ := note.Sign("hello\n", signers)
	second, _ := note.Sign("hello\n", signers)
	if !slices.Equal(all, []string{signer1, signer3, "behind", "it"}) {
		t.Error("the list that was handed in, or the room behind it, is changed")
	}
	spoil(first)
	if string(second) != note1+line3 {
		t.Error("two answers of Sign share memory")
	}
	signs(t, "hello\n", signers, note1+line3, api.OK)
}

func TestAddSignaturesSharesNothing(t *testing.T) { // P7.14, P0.2
	for _, l := range [][]string{nil, {signer3}, {signer1}} {
		message, room := roomy([]byte(note1), []byte(strings.Repeat("behind it", 50))...)
		signers, all := roomy(l, "behind", "it")
		kept := bytes.Clone(room)
		first, _ := note.AddSignatures(message, signers)
		second, _ := note.AddSignatures(message, signers)
		want := bytes.Clone(second)
		if !bytes.Equal(room, kept) || !slices.Equal(all, append(slices.Clone(l), "behind", "it")) {
			t.Error("what was handed in, or the room behind it, is changed")
		}
		spoil(first)
		if !bytes.Equal(room, kept) || !bytes.Equal(second, want) {
			t.Error("an answer of AddSignatures shares memory with the message or with another answer")
		}
		spoil(room)
		if !bytes.Equal(second, want) {
			t.Error("the message is kept")
		}
	}
}

func TestOpenSharesNothing(t *testing.T) { // P7.14, P0.2
	message, room := roomy([]byte(note1+line3+other), []byte("behind it")...)
	verifiers, all := roomy([]string{verifier3, verifier1}, "behind", "it")
	first, _ := note.Open(message, verifiers)
	second, _ := note.Open(message, verifiers)
	if string(room) != note1+line3+other+"behind it" || !slices.Equal(all, []string{verifier3, verifier1, "behind", "it"}) {
		t.Error("what was handed in, or the room behind it, is changed")
	}
	spoil(room)
	spoilSignatures(first.Unverified)
	good := list(signedBy("log.example", 1, up(), "hello\n"), signedBy("witness", 2, up(), "hello\n"))
	if !sameSignatures(first.Good, good) {
		t.Error("the two lists of one answer share memory")
	}
	spoilSignatures(first.Good)
	if second.Text != "hello\n" || !sameSignatures(second.Good, good) || !sameSignatures(second.Unverified, someSignatures()[:1]) {
		t.Error("an answer of Open shares memory with the message or with another answer")
	}
	spoil(second.Good[0].Bytes)
	if !sameSignatures(second.Good[1:], good[1:]) {
		t.Error("the bytes of two signatures of one answer share memory")
	}
}

// answers: what every call says of a text and of a key's text.
func answers(s, key string) string {
	var l []any
	say := func(x ...any) { l = append(l, x...) }
	say(note.CheckName(s))
	for _, alg := range []int{1, 2, 3} {
		hash, e := note.KeyHash(s, alg, make([]byte, 32))
		say(hash, e)
	}
	signer, verifier, e := note.Generate(s, 2, up())
	say(signer, verifier, e)
	v, e := note.ParseVerifier(key)
	say(v, e)
	g, e := note.ParseSigner(key)
	say(g, e)
	f, e := note.FormatVerifier(v)
	say(f, e)
	message, e := note.Format(s, someSignatures())
	say(message, e)
	body, sigs, e := note.Split([]byte(s))
	say(body, sigs, e)
	message, e = note.Sign(s, []string{key})
	say(message, e)
	message, e = note.AddSignatures([]byte(s), []string{key})
	say(message, e)
	n, e := note.Open([]byte(s), []string{key})
	say(n, e)
	head, e := note.FormatHead(note.Head{Origin: s, Size: int64(len(s))})
	say(head, e)
	h, e := note.ParseHead(s)
	say(h, e)
	return fmt.Sprint(l...)
}

func variousTexts() []string {
	return []string{"", "a", "a b", "a\n", "hello\n", note1, note2, note1 + line3 + other, "hellO\n\n" + line1, emptyHead, "\xff\n", strings.Repeat("\n", 70000)}
}

func variousKeys() []string {
	return []string{"", "x", signer1, signer2, verifier1, verifier3, "a" + verifier3}
}

func TestSameCallsSameAnswers(t *testing.T) { // P7.14, P0.2
	var want []string
	for _, s := range variousTexts() {
		for _, key := range variousKeys() {
			want = append(want, answers(s, key))
		}
	}
	var workers sync.WaitGroup
	for range 3 {
		workers.Go(func() {
			for i := len(want) - 1; i >= 0; i-- { // in another order, and beside one another
				s, key := variousTexts()[i/len(variousKeys())], variousKeys()[i%len(variousKeys())]
				if got := answers(s, key); got != want[i] {
					t.Errorf("of %.40q and %.40q: %.80q, earlier %.80q", s, key, got, want[i])
				}
			}
		})
	}
	workers.Wait()
}

func TestSigningIsDeterministic(t *testing.T) { // P7.14, P7.9
	first, _ := note.Sign("hello\n", []string{signer1, signer2, signer3})
	note.Sign("else\n", []string{signer1})
	for range 3 {
		signs(t, "hello\n", []string{signer1, signer2, signer3}, string(first), api.OK)
	}
}

func TestNilIsEmpty(t *testing.T) { // P0.1
	for _, l := range [][]string{nil, {}} {
		signs(t, "a\n", l, "", api.ErrNote)
		adds(t, note1, l, note1, api.OK)
		openRefuses(t, note1, l, api.ErrUnsigned)
	}
	for _, b := range [][]byte{nil, {}} {
		if _, e := note.KeyHash("a", 1, b); e != api.ErrAlg {
			t.Errorf("KeyHash of no key: %d", e)
		}
		if _, e := note.FormatVerifier(note.Verifier{Name: "a", Alg: 1, Key: b}); e != api.ErrAlg {
			t.Errorf("FormatVerifier of no key: %d", e)
		}
		formats(t, "a\n", []note.Signature{{Name: "a", Bytes: b}}, "", api.ErrNote)
		if _, _, e := note.Split(b); e != api.ErrNote {
			t.Errorf("Split of nothing: %d", e)
		}
		if _, e := note.AddSignatures(b, nil); e != api.ErrNote {
			t.Errorf("AddSignatures to nothing: %d", e)
		}
		if _, e := note.Open(b, nil); e != api.ErrNote {
			t.Errorf("Open of nothing: %d", e)
		}
	}
	formats(t, "a\n", nil, "", api.ErrNote)
	formats(t, "a\n", []note.Signature{}, "", api.ErrNote)
}
