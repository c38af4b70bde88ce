package sign_test

import (
	"crypto/ed25519"
	"crypto/sha512"
	"encoding/hex"
	"slices"
	"strings"
	"testing"

	"ledger/api"
	"ledger/scalar"
	"ledger/sign"
)

// bytesOf: of hex digits, in which spaces may stand.
func bytesOf(t *testing.T, s string) []byte {
	t.Helper()
	b, err := hex.DecodeString(strings.ReplaceAll(s, " ", ""))
	if err != nil {
		t.Fatalf("a test's own bytes: %q", s)
	}
	return b
}

// number: 32 bytes of hex digits, filled up with zeros.
func number(t *testing.T, s string) (n [32]byte) {
	t.Helper()
	if copy(n[:], bytesOf(t, s)) != len(bytesOf(t, s)) {
		t.Fatalf("a test's own number: %q", s)
	}
	return n
}

// signatureOf: of its two halves.
func signatureOf(r, s [32]byte) [64]byte {
	return [64]byte(append(r[:], s[:]...))
}

// ascending: 00 01 02 ..
func ascending(n int) []byte {
	b := make([]byte, n)
	for i := range b {
		b[i] = byte(i)
	}
	return b
}

// seeds: the edges, some of one bit, and some of no kind.
func seeds() [][32]byte {
	l := [][32]byte{{}, [32]byte(ascending(32)), [32]byte([]byte(strings.Repeat("\xff", 32)))}
	for i := range 8 {
		var bit [32]byte
		bit[i*4] = 1 << i
		l = append(l, bit)
	}
	for i := range 16 {
		l = append(l, sha512.Sum512_256([]byte{byte(i)}))
	}
	return l
}

// messages: of the lengths at which the hashed pieces (32 or 64 bytes ahead of them) fill the blocks of SHA-512, and around them.
func messages() [][]byte {
	l := [][]byte{nil, {}, []byte("abc"), []byte("abc\x00"), []byte("ledger\n"), {0}, {0xff}}
	for _, n := range []int{15, 16, 47, 48, 49, 63, 64, 65, 79, 80, 81, 95, 96, 97, 127, 128, 175, 176, 192, 1000, 70000} {
		l = append(l, ascending(n))
	}
	return l
}

// theirs: the key of the library for a seed.
func theirs(seed [32]byte) ed25519.PrivateKey { return ed25519.NewKeyFromSeed(seed[:]) }

func TestExpandExample(t *testing.T) { // P5.1
	a, prefix := sign.Expand([32]byte{})
	if a != number(t, "5046adc1dba838867b2bbbfdd0c3423e58b57970b5267a90f57960924a87f156") || prefix != number(t, "0a6a85eaa642dac835424b5d7c8d637c00408c7a73da672b7f498521420b6dd3") {
		t.Errorf("Expand of zeros: %x, %x", a, prefix)
	}
}

func TestExpandIsHash(t *testing.T) { // P5.1
	for _, seed := range seeds() {
		h := sha512.Sum512(seed[:])
		want := h
		want[0] &= 0xf8
		want[31] = want[31]&0x7f | 0x40
		a, prefix := sign.Expand(seed)
		if signatureOf(a, prefix) != want {
			t.Errorf("Expand(%x): %x, %x, want %x", seed, a, prefix, want)
		}
		if scalar.Canonical(a) {
			t.Errorf("Expand(%x): %x is reduced", seed, a)
		}
	}
}

func TestPublicExamples(t *testing.T) { // P5.2
	for seed, want := range map[string]string{
		"": "3b6a27bcceb6a42d62a3a8d02a6f0d73653215771de243a63ac048a18b59da29",
		"000102030405060708090a0b0c0d0e0f101112131415161718191a1b1c1d1e1f": "03a107bff3ce10be1d70dd18e74bc09967e4d6309ba50d5f1ddc8664125531b8",
		strings.Repeat("ff", 32): "76a1592044a6e4f511265bca73a604d90b0529d1df602be30a19a9257660d1f5",
		"9d61b19deffd5a60ba844af492ec2cc44449c5697b326919703bac031cae7f60": "d75a980182b10ab7d54bfed3c964073a0ee172f3daa62325af021a68f707511a", // RFC 8032, 7.1
		"4ccd089b28ff96da9db6c346ec114e0f5b8a319f35aba624da8cf6ed4fb8a6fb": "3d4017c3e843895a92b70aa74d1b7ebc9c982ccf2ec4968cc0cd55f12af4660c",
	} {
		if got := sign.Public(number(t, seed)); got != number(t, want) {
			t.Errorf("Public(%s): %x, want %s", seed, got, want)
		}
	}
}

func TestPublicIsTheLibrarys(t *testing.T) { // P5.2
	for _, seed := range seeds() {
		if got, want := sign.Public(seed), [32]byte(theirs(seed)[32:]); got != want {
			t.Errorf("Public(%x): %x, want %x", seed, got, want)
		}
	}
}

func TestSignExamples(t *testing.T) { // P5.4, P5.6
	for _, c := range []struct{ seed, message, want string }{
		{"", "", "8f895b3cafe2c9506039d0e2a66382568004674fe8d237785092e40d6aaf483e 4fc60168705f31f101596138ce21aa357c0d32a064f423dc3ee4aa3abf53f803"},
		{"000102030405060708090a0b0c0d0e0f101112131415161718191a1b1c1d1e1f", "abc", "cc46d62d3754f41754b27b6ea2cb2c272bafa7a5a1f6062bd060f414e50caaea c2da66ad39cef4424a90236ea907b7d8057e3443dc5abfc9986967ee7213a407"},
		{strings.Repeat("ff", 32), "ledger\n", "b3505c3889feb589457947a0ce48c826645bcc382ef1379588319be6ac364679 d6cf17d933df60ffcbabfcf418130b69bc3965026abe133b3b313d573b862a00"},
		{"9d61b19deffd5a60ba844af492ec2cc44449c5697b326919703bac031cae7f60", "", "e5564300c360ac729086e2cc806e828a84877f1eb8e5d974d873e06522490155 5fb8821590a33bacc61e39701cf9b46bd25bf5f0595bbe24655141438e7a100b"}, // RFC 8032, 7.1
		{"4ccd089b28ff96da9db6c346ec114e0f5b8a319f35aba624da8cf6ed4fb8a6fb", "\x72", "92a009a9f0d4cab8720e820b5f642540a2b27b5416503f8fb3762223ebdb69da 085ac1e43e15996e458f3613d0f11d8c387b2eaeb4302aeeb00d291612bb0c00"},
		{"c5aa8df43f9f837bedb7442f31dcb7b166d38535076f094b85ce3a2e0b4458f7", "\xaf\x82", "6291d657deec24024827e69c3abe01a30ce548a284743a445e3680d7db5ac3ac 18ff9b538d16f290ae67f760984dc6594a7c15e9716ed28dc027beceea1ec40a"},
	} {
		got := sign.Sign(number(t, c.seed), []byte(c.message))
		if got != [64]byte(bytesOf(t, c.want)) {
			t.Errorf("Sign(%s, %q): %x, want %s", c.seed, c.message, got, c.want)
		}
		if e := sign.Verify(sign.Public(number(t, c.seed)), []byte(c.message), got); e != api.OK {
			t.Errorf("Verify of Sign(%s, %q): %d", c.seed, c.message, e)
		}
	}
}

// eachSigned: pairs in which every seed and every message stands.
func eachSigned(do func(seed [32]byte, message []byte)) {
	l, m := seeds(), messages()
	for i := range max(len(l), len(m)) {
		do(l[i%len(l)], m[i%len(m)])
	}
}

func TestSignIsTheLibrarys(t *testing.T) { // P5.4
	eachSigned(func(seed [32]byte, message []byte) {
		got, want := sign.Sign(seed, message), [64]byte(ed25519.Sign(theirs(seed), message))
		if got != want {
			t.Errorf("Sign(%x, %d bytes): %x, want %x", seed, len(message), got, want)
		}
		if !scalar.Canonical([32]byte(got[32:])) {
			t.Errorf("Sign(%x, %d bytes): S is %x, not below L", seed, len(message), got[32:])
		}
	})
}

func TestSignedIsVerified(t *testing.T) { // P5.6
	eachSigned(func(seed [32]byte, message []byte) {
		if e := sign.Verify(sign.Public(seed), message, sign.Sign(seed, message)); e != api.OK {
			t.Errorf("Verify of Sign(%x, %d bytes): %d", seed, len(message), e)
		}
	})
}

func TestChallengeIsHash(t *testing.T) { // P5.3
	ff := [32]byte([]byte(strings.Repeat("\xff", 32)))
	for _, message := range messages() {
		for _, c := range [][2][32]byte{{}, {{1}, {2}}, {{2}, {1}}, {ff, ff}, {ff, {}}, {{0xed, 31: 0x7f}, ff}} { // forms, and what is none
			whole := slices.Concat(c[0][:], c[1][:], message)
			got, want := sign.Challenge(c[0], c[1], message), scalar.Reduce(sha512.Sum512(whole))
			if got != want || !scalar.Canonical(got) {
				t.Errorf("Challenge(%x, %x, %d bytes): %x, want %x", c[0], c[1], len(message), got, want)
			}
		}
	}
}
