package note_test

import (
	"bytes"
	"crypto/ed25519"
	"crypto/sha256"
	"encoding/base64"
	"encoding/binary"
	"encoding/hex"
	"regexp"
	"strconv"
	"strings"
	"testing"

	"ledger/api"
	"ledger/note"
)

const (
	signer1   = "PRIVATE+KEY+log.example+b252d0cf+AQABAgMEBQYHCAkKCwwNDg8QERITFBUWFxgZGhscHR4f"
	verifier1 = "log.example+b252d0cf+AQOhB7/zzhC+HXDdGOdLwJln5NYwm6UNXx3chmQSVTG4"
	signer2   = "PRIVATE+KEY+log.example+d0835246+AgAAAAAAAAAAAAAAAAAAAAAAAAAAAAAAAAAAAAAAAAAA"
	verifier2 = "log.example+d0835246+AmZoeq34Yr13bI/Bi46fjiAIlxSFbuIzs5AqWR0NXykl"
	signer3   = "PRIVATE+KEY+witness+61800ac7+AgABAgMEBQYHCAkKCwwNDg8QERITFBUWFxgZGhscHR4f"
	verifier3 = "witness+61800ac7+AmMNzSlmxDNmkRJUSLuyW0/0EqSccy2yyKvBuFgb1xDd"
)

// up: the seed 00 01 .. 1f.
func up() (seed [32]byte) {
	for i := range seed {
		seed[i] = byte(i)
	}
	return seed
}

func encode(b []byte) string { return base64.StdEncoding.EncodeToString(b) }

// keyOf: the key of a seed, by the library.
func keyOf(alg int, seed [32]byte) [32]byte {
	if alg == note.AlgDrill {
		return sha256.Sum256(seed[:])
	}
	return [32]byte(ed25519.NewKeyFromSeed(seed[:]).Public().(ed25519.PublicKey))
}

// hashOf: the hash of a key, by the library.
func hashOf(name string, alg int, key [32]byte) uint32 {
	sum := sha256.Sum256([]byte(name + "\n" + string([]byte{byte(alg)}) + string(key[:])))
	return binary.BigEndian.Uint32(sum[:])
}

// textOf: a verifier's text, or what stands behind the mark in a signer's.
func textOf(name string, hash uint32, alg int, b []byte) string {
	return name + "+" + hex.EncodeToString(binary.BigEndian.AppendUint32(nil, hash)) + "+" + encode(append([]byte{byte(alg)}, b...))
}

func verifierOf(name string, alg int, key [32]byte) string {
	return textOf(name, hashOf(name, alg, key), alg, key[:])
}

func signerOf(name string, alg int, seed [32]byte) string {
	return "PRIVATE+KEY+" + textOf(name, hashOf(name, alg, keyOf(alg, seed)), alg, seed[:])
}

func someNames() []string {
	return []string{"a", "log.example", "é/—", "PRIVATE", strings.Repeat("n", 100)}
}

func wrongAlgs() []int { return []int{-1, 0, 3, 255, 256, 257, 258, 1<<32 + 1, -1 << 63} }

func TestKeyHash(t *testing.T) { // P7.2
	for _, name := range someNames() {
		for _, alg := range []int{1, 2} {
			for _, key := range [][32]byte{{}, up(), [32]byte(bytes.Repeat([]byte{0xff}, 32))} { // the last is no point
				if h, e := note.KeyHash(name, alg, key[:]); e != api.OK || h != hashOf(name, alg, key) {
					t.Errorf("KeyHash(%q, %d, %x): %08x, %d, want %08x", name, alg, key, h, e, hashOf(name, alg, key))
				}
			}
		}
	}
	key := keyOf(1, up())
	if h, e := note.KeyHash("log.example", 1, key[:]); h != 0xb252d0cf || e != api.OK {
		t.Errorf("KeyHash of the first example: %08x, %d", h, e)
	}
}

func TestKeyHashRefuses(t *testing.T) { // P7.2, P0.1
	is := func(name string, alg int, key []byte, want api.Errno) {
		t.Helper()
		if h, e := note.KeyHash(name, alg, key); h != 0 || e != want {
			t.Errorf("KeyHash(%.20q, %d, %d bytes): %08x, %d, want %d", name, alg, len(key), h, e, want)
		}
	}
	is("a b", 3, nil, api.ErrName)
	is("", 1, make([]byte, 32), api.ErrName)
	is("a+b", 1, make([]byte, 32), api.ErrName)
	for _, alg := range wrongAlgs() {
		is("a", alg, make([]byte, 32), api.ErrAlg)
	}
	for _, n := range []int{0, 1, 31, 33, 64} {
		is("a", 1, make([]byte, n), api.ErrAlg)
		is("a", 2, make([]byte, n), api.ErrAlg)
	}
	is("a", 1, nil, api.ErrAlg)
}

func generates(t *testing.T, name string, alg int, seed [32]byte, signer, verifier string, want api.Errno) {
	t.Helper()
	if s, v, e := note.Generate(name, alg, seed); s != signer || v != verifier || e != want {
		t.Errorf("Generate(%q, %d, %x): %q, %q, %d, want %q, %q, %d", name, alg, seed, s, v, e, signer, verifier, want)
	}
}

func TestGenerate(t *testing.T) { // P7.3
	generates(t, "log.example", 1, up(), signer1, verifier1, api.OK)
	generates(t, "log.example", 2, [32]byte{}, signer2, verifier2, api.OK)
	generates(t, "witness", 2, up(), signer3, verifier3, api.OK)
	for _, name := range someNames() {
		for _, alg := range []int{1, 2} {
			for _, seed := range [][32]byte{{}, up(), sha256.Sum256([]byte(name)), [32]byte(bytes.Repeat([]byte{0xff}, 32))} {
				generates(t, name, alg, seed, signerOf(name, alg, seed), verifierOf(name, alg, keyOf(alg, seed)), api.OK)
			}
		}
	}
}

func TestGenerateRefuses(t *testing.T) { // P7.3, P0.1
	generates(t, "a b", 3, up(), "", "", api.ErrName)
	generates(t, "", 1, up(), "", "", api.ErrName)
	generates(t, "a+b", 2, up(), "", "", api.ErrName)
	for _, alg := range wrongAlgs() {
		generates(t, "a", alg, up(), "", "", api.ErrAlg)
	}
}

// told: what the text of a key says, of either kind; b is the key or the seed.
type told struct {
	name string
	hash uint32
	alg  int
	b    [32]byte
}

var keyForm = regexp.MustCompile(`^(?s)([^+]*)\+([0-9a-f]{8})\+(.+)$`)

// reads: what ParseVerifier (of a seed: ParseSigner behind its mark) is to answer, by the words of the document.
func reads(s string, seed bool) (told, api.Errno) {
	m := keyForm.FindStringSubmatch(s)
	if m == nil || strings.ContainsAny(m[3], "\r\n") {
		return told{}, api.ErrKeyText
	}
	b, err := base64.StdEncoding.Strict().DecodeString(m[3])
	if err != nil {
		return told{}, api.ErrKeyText
	}
	if e := nameError(m[1]); e != api.OK {
		return told{}, e
	}
	alg := int(b[0])
	if alg != 1 && alg != 2 || len(b) != 33 {
		return told{}, api.ErrAlg
	}
	hash, _ := strconv.ParseUint(m[2], 16, 32)
	k := told{m[1], uint32(hash), alg, [32]byte(b[1:])}
	key := k.b
	if seed {
		key = keyOf(alg, k.b)
	}
	if hashOf(k.name, alg, key) != k.hash {
		return told{}, api.ErrKeyHash
	}
	return k, api.OK
}

func readsVerifier(s string) (told, api.Errno) {
	if len(s) > 1024 {
		return told{}, api.ErrKeyText
	}
	return reads(s, false)
}

func readsSigner(s string) (told, api.Errno) {
	rest, ok := strings.CutPrefix(s, "PRIVATE+KEY+")
	if !ok || len(s) > 1024 {
		return told{}, api.ErrKeyText
	}
	return reads(rest, true)
}

// parsed: both calls on one text, held against the words of the document.
func parsed(t *testing.T, s string) {
	t.Helper()
	v, e := note.ParseVerifier(s)
	want, wantE := readsVerifier(s)
	if e != wantE || v.Name != want.name || v.Hash != want.hash || v.Alg != want.alg || e == api.OK && !bytes.Equal(v.Key, want.b[:]) || e != api.OK && len(v.Key) != 0 {
		t.Errorf("ParseVerifier(%.90q): %v, %d, want %v, %d", s, v, e, want, wantE)
	}
	g, e := note.ParseSigner(s)
	want, wantE = readsSigner(s)
	if e != wantE || (g != note.Signer{Name: want.name, Hash: want.hash, Alg: want.alg, Seed: want.b}) {
		t.Errorf("ParseSigner(%.90q): %v, %d, want %v, %d", s, g, e, want, wantE)
	}
}

func TestParseKeys(t *testing.T) { // P7.4, P7.5
	for _, name := range someNames() {
		for _, alg := range []int{1, 2} {
			for _, b := range [][32]byte{{}, up(), [32]byte(bytes.Repeat([]byte{0xff}, 32))} {
				parsed(t, verifierOf(name, alg, b)) // whether some seed makes these bytes isn't asked
				parsed(t, signerOf(name, alg, b))
				parsed(t, "PRIVATE+KEY+"+verifierOf(name, alg, b))
				parsed(t, strings.TrimPrefix(signerOf(name, alg, b), "PRIVATE+KEY+"))
			}
		}
	}
}

func TestParseVerifierRefuses(t *testing.T) { // P7.4, P0.1
	tail := verifier1[len("log.example+b252d0cf+"):]
	for s, want := range map[string]api.Errno{
		"": api.ErrKeyText, "a": api.ErrKeyText, "a+b": api.ErrKeyText, "+": api.ErrKeyText, "++": api.ErrKeyText, "log.example+b252d0cf": api.ErrKeyText,
		"log.example+B252D0CF+AQ==": api.ErrKeyText, "log.example+b252d0cf+": api.ErrKeyText, "log.example+b252d0c+" + tail: api.ErrKeyText, "log.example+b252d0cf0+" + tail: api.ErrKeyText,
		"log.example+b252d0cf00+" + tail: api.ErrKeyText, "log.example+b252d0+" + tail: api.ErrKeyText, "log.example+b252d0cg+" + tail: api.ErrKeyText, "log.example++" + tail: api.ErrKeyText, verifier1 + "\n": api.ErrKeyText, verifier1 + "=": api.ErrKeyText, "log.example+b252d0cf+AR==": api.ErrKeyText,
		"a b+zz+AQ==": api.ErrKeyText, "a b+b252d0cf+*": api.ErrKeyText, "log+example+b252d0cf+" + tail: api.ErrKeyText, signer1: api.ErrKeyText,
		"+b252d0cf+AQ==": api.ErrName, "a b+b252d0cf+Aw==": api.ErrName, "a\n+b252d0cf+" + tail: api.ErrName, strings.Repeat("n", 101) + "+b252d0cf+AQ==": api.ErrName,
		"a+b252d0cf+AQ==": api.ErrAlg, "a+b252d0cf+Aw==": api.ErrAlg, "a+b252d0cf+AA" + tail[2:]: api.ErrAlg, "a+b252d0cf+Aw" + tail[2:]: api.ErrAlg, "a+b252d0cf+" + tail[:40]: api.ErrAlg, "a+b252d0cf+" + tail + "AA==": api.ErrAlg,
		"a+b252d0cf+" + tail: api.ErrKeyHash, "log.example+b252d0ce+" + tail: api.ErrKeyHash, "log.example+00000000+" + tail: api.ErrKeyHash, "log.example+b252d0cf+Ag" + tail[2:]: api.ErrKeyHash,
	} {
		v, e := note.ParseVerifier(s)
		if e != want || v.Name != "" || v.Hash != 0 || v.Alg != 0 || len(v.Key) != 0 {
			t.Errorf("ParseVerifier(%.90q): %v, %d, want %d", s, v, e, want)
		}
		g, e := note.ParseSigner("PRIVATE+KEY+" + s)
		if e != want || g != (note.Signer{}) {
			t.Errorf("ParseSigner behind its mark (%.90q): %v, %d, want %d", s, g, e, want)
		}
	}
}

func TestParseSignerRefuses(t *testing.T) { // P7.5, P0.1
	rest := strings.TrimPrefix(signer1, "PRIVATE+KEY+")
	for s, want := range map[string]api.Errno{
		"": api.ErrKeyText, "PRIVATE+KEY+": api.ErrKeyText, rest: api.ErrKeyText, verifier1: api.ErrKeyText, "private+key+" + rest: api.ErrKeyText, " " + signer1: api.ErrKeyText, "PRIVATE+KEY" + rest: api.ErrKeyText, "PRIVATE+KEY+PRIVATE+KEY+" + rest: api.ErrKeyText,
		"PRIVATE+KEY+" + verifier1: api.ErrKeyHash, // the hash is that of the key which the seed makes
	} {
		if g, e := note.ParseSigner(s); e != want || g != (note.Signer{}) {
			t.Errorf("ParseSigner(%.90q): %v, %d, want %d", s, g, e, want)
		}
	}
}

// eachEdit: the text with one byte taken away, doubled, or made another.
func eachEdit(s string, others string, do func(string)) {
	for i := range len(s) {
		do(s[:i] + s[i+1:])
		do(s[:i] + s[i:i+1] + s[i:])
		for j := range len(others) {
			do(s[:i] + others[j:j+1] + s[i+1:])
			do(s[:i] + others[j:j+1] + s[i:])
		}
	}
}

func TestParseEditedKeys(t *testing.T) { // P7.4, P7.5
	for _, s := range []string{verifier1, verifier2, signer2, signer3} {
		eachEdit(s, "+ \n=aA0/\x00\xff", func(s string) { parsed(t, s) })
	}
}

func TestKeyTextLengths(t *testing.T) { // P7.4, P7.5
	for n := 1020; n <= 1028; n++ {
		for front := 1; front <= 4; front++ { // one of these leaves room for whole groups of letters
			s := strings.Repeat("n", front) + "+00000000+A"
			s += strings.Repeat("A", max(0, n-len(s)))
			parsed(t, s)
			mark := "PRIVATE+KEY+"
			parsed(t, mark+s[:front+10]+strings.Repeat("A", n-len(mark)-front-10))
		}
	}
	long := "nn+00000000+" + strings.Repeat("A", 1012) // 1024 bytes
	if _, e := note.ParseVerifier(long); e != api.ErrAlg {
		t.Errorf("a verifier's text of 1024 bytes: %d", e)
	}
	if _, e := note.ParseVerifier("n" + long); e != api.ErrKeyText {
		t.Errorf("a verifier's text of 1025 bytes: %d", e)
	}
	if _, e := note.ParseSigner("PRIVATE+KEY+" + long[:1012]); e != api.ErrAlg {
		t.Errorf("a signer's text of 1024 bytes: %d", e)
	}
	if _, e := note.ParseSigner("PRIVATE+KEY+n" + long[:1012]); e != api.ErrKeyText {
		t.Errorf("a signer's text of 1025 bytes: %d", e)
	}
}

func TestFormatVerifier(t *testing.T) { // P7.6
	for _, name := range someNames() {
		for _, alg := range []int{1, 2} {
			for _, key := range [][32]byte{{}, up(), [32]byte(bytes.Repeat([]byte{0xff}, 32))} {
				v := note.Verifier{Name: name, Hash: hashOf(name, alg, key), Alg: alg, Key: key[:]}
				s, e := note.FormatVerifier(v)
				if s != verifierOf(name, alg, key) || e != api.OK {
					t.Errorf("FormatVerifier(%v): %q, %d", v, s, e)
				}
				back, e := note.ParseVerifier(s)
				if back.Name != name || back.Hash != v.Hash || back.Alg != alg || !bytes.Equal(back.Key, key[:]) || e != api.OK {
					t.Errorf("ParseVerifier(%q): %v, %d", s, back, e)
				}
			}
		}
	}
}

func TestFormatVerifierRefuses(t *testing.T) { // P7.6, P0.1
	key := keyOf(1, up())
	hash := hashOf("log.example", 1, key)
	is := func(v note.Verifier, want api.Errno) {
		t.Helper()
		if s, e := note.FormatVerifier(v); s != "" || e != want {
			t.Errorf("FormatVerifier(%v): %q, %d, want %d", v, s, e, want)
		}
	}
	is(note.Verifier{}, api.ErrName)
	is(note.Verifier{Name: "a b", Alg: 3}, api.ErrName)
	is(note.Verifier{Name: "a+b", Hash: hashOf("a+b", 1, key), Alg: 1, Key: key[:]}, api.ErrName)
	for _, alg := range wrongAlgs() {
		is(note.Verifier{Name: "a", Hash: hashOf("a", alg, key), Alg: alg, Key: key[:]}, api.ErrAlg)
	}
	for _, n := range []int{0, 31, 33} {
		is(note.Verifier{Name: "a", Alg: 1, Key: make([]byte, n)}, api.ErrAlg)
	}
	is(note.Verifier{Name: "log.example", Hash: hash + 1, Alg: 1, Key: key[:]}, api.ErrKeyHash)
	is(note.Verifier{Name: "log.example", Hash: hash, Alg: 2, Key: key[:]}, api.ErrKeyHash)
	is(note.Verifier{Name: "log.examplf", Hash: hash, Alg: 1, Key: key[:]}, api.ErrKeyHash)
	is(note.Verifier{Name: "log.example", Hash: hash, Alg: 1, Key: make([]byte, 32)}, api.ErrKeyHash)
}
