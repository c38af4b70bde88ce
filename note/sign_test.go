package note_test

import (
	"crypto/ed25519"
	"crypto/hmac"
	"crypto/sha256"
	"encoding/binary"
	"slices"
	"strings"
	"testing"

	"ledger/api"
	"ledger/note"
)

// signedBy: the signature of a text, by the library.
func signedBy(name string, alg int, seed [32]byte, body string) note.Signature {
	key := keyOf(alg, seed)
	s := note.Signature{Name: name, Hash: hashOf(name, alg, key)}
	if alg == note.AlgEd25519 {
		s.Bytes = ed25519.Sign(ed25519.NewKeyFromSeed(seed[:]), []byte(body))
		return s
	}
	m := hmac.New(sha256.New, key[:])
	m.Write([]byte(body))
	s.Bytes = m.Sum(nil)
	return s
}

// drillSeed: a seed for each number.
func drillSeed(n int) (seed [32]byte) {
	binary.BigEndian.PutUint64(seed[:], uint64(n))
	return seed
}

// drillSigners: the texts of so many unlike signers of one name.
func drillSigners(name string, n int) []string {
	var l []string
	for i := range n {
		l = append(l, signerOf(name, note.AlgDrill, drillSeed(i)))
	}
	return l
}

// drillLines: their signatures.
func drillLines(name string, n int, body string) []note.Signature {
	var l []note.Signature
	for i := range n {
		l = append(l, signedBy(name, note.AlgDrill, drillSeed(i), body))
	}
	return l
}

// sameHash: two seeds whose drill keys have one hash under the name.
func sameHash(name string) (a, b [32]byte) {
	seen := map[uint32]int{}
	for n := 0; ; n++ {
		h := hashOf(name, note.AlgDrill, keyOf(note.AlgDrill, drillSeed(n)))
		if m, ok := seen[h]; ok {
			return drillSeed(m), drillSeed(n)
		}
		seen[h] = n
	}
}

func signs(t *testing.T, body string, signers []string, want string, e api.Errno) {
	t.Helper()
	if m, f := note.Sign(body, signers); string(m) != want || f != e {
		t.Errorf("Sign(%.40q, %d keys): %.120q, %d, want %.120q, %d", body, len(signers), m, f, want, e)
	}
}

func adds(t *testing.T, message string, signers []string, want string, e api.Errno) {
	t.Helper()
	if m, f := note.AddSignatures([]byte(message), signers); string(m) != want || f != e {
		t.Errorf("AddSignatures(%.80q, %d keys): %.120q, %d, want %.120q, %d", message, len(signers), m, f, want, e)
	}
}

func TestSign(t *testing.T) { // P7.9
	signs(t, "hello\n", []string{signer1}, note1, api.OK)
	signs(t, "a\n\nb\n", []string{signer2}, note2, api.OK)
	signs(t, "hello\n", []string{signer1, signer3}, note1+line3, api.OK)
	signs(t, "hello\n", []string{signer3, signer1}, "hello\n\n"+line3+line1, api.OK)
	for _, body := range someTexts() {
		a := signedBy("é", 1, up(), body)
		b := signedBy("é", 2, up(), body)
		c := signedBy("log", 2, up(), body)
		signs(t, body, []string{signerOf("é", 1, up()), signerOf("é", 2, up()), signerOf("log", 2, up())}, noteOf(body, a, b, c), api.OK)
	}
	signs(t, "a\n", drillSigners("w", 16), noteOf("a\n", drillLines("w", 16, "a\n")...), api.OK)
}

func TestSignRefuses(t *testing.T) { // P7.9, P0.1
	for _, body := range wrongTexts() {
		signs(t, body, []string{signer1}, "", api.ErrNote)
		signs(t, body, []string{signer1, signer1}, "", api.ErrTwice)
		signs(t, body, []string{signer1, "x", signer1}, "", api.ErrKeyText)
	}
	signs(t, "hello\n", nil, "", api.ErrNote)
	signs(t, "hello\n", []string{}, "", api.ErrNote)
	signs(t, "hello", nil, "", api.ErrNote)
	signs(t, "hello\n", []string{verifier1}, "", api.ErrKeyText)
	signs(t, "hello\n", []string{signer1, "PRIVATE+KEY+a b+00000000+AQ==", "x"}, "", api.ErrName)
	signs(t, "hello\n", []string{signer1, "PRIVATE+KEY+a+00000000+AQ==", "x"}, "", api.ErrAlg)
	signs(t, "hello\n", []string{signer1, "PRIVATE+KEY+" + verifier1, "x"}, "", api.ErrKeyHash)
	signs(t, "hello\n", []string{signer1, signer3, signer1}, "", api.ErrTwice)
	signs(t, "hello\n", []string{signer1, signer1, "x"}, "", api.ErrKeyText)
}

func TestSignersOfOneHash(t *testing.T) { // P7.9, P7.10
	a, b := sameHash("w")
	l := []string{signerOf("w", 2, a), signerOf("w", 2, b)}
	signs(t, "a\n", l, "", api.ErrTwice)
	adds(t, "a\n\n"+other, l, "", api.ErrTwice)
	mine, theirs := signedBy("w", 2, a, "a\n"), signedBy("w", 2, b, "a\n")
	adds(t, noteOf("a\n", mine), l[1:], noteOf("a\n", theirs), api.OK) // the key of one name and hash renews it
}

func TestSignLengths(t *testing.T) { // P7.9
	room := 65536 - len(noteOf("", signedBy("w", 2, up(), "")))
	body := filled(room)
	w := signerOf("w", 2, up())
	signs(t, body, []string{w}, noteOf(body, signedBy("w", 2, up(), body)), api.OK)
	signs(t, filled(room+1), []string{w}, "", api.ErrLong)
	signs(t, strings.Repeat("x", room+1), []string{w}, "", api.ErrNote) // the note's length is looked at last
	signs(t, filled(room), []string{w, signer3}, "", api.ErrLong)
	signs(t, filled(65536), []string{w}, "", api.ErrLong)
	signs(t, filled(65536), []string{w, "x"}, "", api.ErrKeyText)
	signs(t, filled(65536), []string{w, w}, "", api.ErrTwice)
	signs(t, filled(65536), nil, "", api.ErrNote)
	signs(t, strings.Repeat("x", 65537), []string{"x"}, "", api.ErrLong)
	signs(t, "", slices.Repeat([]string{"x"}, 16), "", api.ErrKeyText)
	signs(t, "", slices.Repeat([]string{"x"}, 17), "", api.ErrLong)
	signs(t, "a\n", drillSigners("w", 17), "", api.ErrLong)
}

func TestAddSignatures(t *testing.T) { // P7.10
	adds(t, note1, []string{signer3}, note1+line3, api.OK)
	adds(t, note1+line3, []string{signer1}, "hello\n\n"+line3+line1, api.OK)
	adds(t, "hello\n\n"+other+line1+line1, []string{signer3, signer1}, "hello\n\n"+other+line3+line1, api.OK)
	adds(t, note1, []string{signer1}, note1, api.OK)
	false1 := lineOf(note.Signature{Name: "log.example", Hash: 0xb252d0cf, Bytes: []byte("false")})
	adds(t, "hello\n\n"+false1+other, []string{signer1}, "hello\n\n"+other+line1, api.OK)
	adds(t, "hello\n\n"+false1+other, []string{signer3}, "hello\n\n"+false1+other+line3, api.OK) // what stays is not checked
	adds(t, "hello\n\n"+other+other, []string{signer3}, "hello\n\n"+other+other+line3, api.OK)
}

func TestAddSignaturesWithoutSigners(t *testing.T) { // P7.10
	for _, body := range someTexts() {
		message := noteOf(body, someSignatures()...)
		adds(t, message, nil, message, api.OK)
		adds(t, message, []string{}, message, api.OK)
	}
}

func TestAddSignaturesKeepsLikeOnes(t *testing.T) { // P7.10
	mine := signedBy("witness", 2, up(), "a\n")
	name, hash := mine, mine
	name.Name = "witnesses"
	hash.Hash++
	adds(t, noteOf("a\n", name, mine, hash), []string{signer3}, noteOf("a\n", name, hash, mine), api.OK)
}

func TestAddSignaturesRefuses(t *testing.T) { // P7.10, P0.1
	adds(t, "hello\n", []string{"x"}, "", api.ErrNote)
	adds(t, "hello\n", nil, "", api.ErrNote)
	adds(t, "hello", []string{signer1, signer1}, "", api.ErrNote)
	adds(t, "", nil, "", api.ErrNote)
	adds(t, note1+"\n", []string{signer1}, "", api.ErrNote)
	adds(t, note1, []string{"x"}, "", api.ErrKeyText)
	adds(t, note1, []string{verifier1}, "", api.ErrKeyText)
	adds(t, note1, []string{signer3, signer3}, "", api.ErrTwice)
	adds(t, note1, []string{signer3, signer3, "x"}, "", api.ErrKeyText)
	adds(t, note1, []string{signer3, "PRIVATE+KEY+a b+00000000+AQ==", "x"}, "", api.ErrName)
	adds(t, note1, []string{signer3, "PRIVATE+KEY+" + verifier1, "x"}, "", api.ErrKeyHash)
	adds(t, strings.Repeat("x", 65537), []string{"x"}, "", api.ErrLong)
	adds(t, "hello\n", slices.Repeat([]string{"x"}, 17), "", api.ErrLong)
	adds(t, "hello\n", slices.Repeat([]string{"x"}, 16), "", api.ErrNote)
}

func TestAddSignaturesLengths(t *testing.T) { // P7.10
	sixteen := "hello\n\n" + strings.Repeat(other, 16)
	fifteen := "hello\n\n" + strings.Repeat(other, 15)
	adds(t, sixteen, nil, sixteen, api.OK)
	adds(t, sixteen, []string{signer3}, "", api.ErrLong)
	adds(t, sixteen, []string{signer3, signer3}, "", api.ErrTwice)
	adds(t, fifteen, []string{signer3}, fifteen+line3, api.OK)
	adds(t, fifteen+line3, []string{signer3}, fifteen+line3, api.OK)
	adds(t, fifteen, []string{signer3, signer1}, "", api.ErrLong)
	adds(t, "hello\n\n"+other, drillSigners("w", 16), "", api.ErrLong)
	adds(t, noteOf("a\n", drillLines("w", 16, "b\n")...), drillSigners("w", 16), noteOf("a\n", drillLines("w", 16, "a\n")...), api.OK)

	w := signerOf("w", 2, up())
	room := 65536 - len(noteOf("", signedBy("w", 2, up(), ""))) - len(other)
	mine := lineOf(signedBy("w", 2, up(), filled(room)))
	adds(t, filled(room)+"\n"+other, []string{w}, filled(room)+"\n"+other+mine, api.OK)
	adds(t, filled(room+1)+"\n"+other, []string{w}, "", api.ErrLong)
	adds(t, filled(room)+"\n"+other+mine, []string{w}, filled(room)+"\n"+other+mine, api.OK)
	adds(t, filled(room+1)+"\n"+other, []string{w, "x"}, "", api.ErrKeyText)
}
