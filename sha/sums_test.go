package sha_test

import (
	"bytes"
	"crypto/hmac"
	"crypto/sha256"
	"crypto/sha512"
	"encoding/hex"
	"math"
	"strings"
	"testing"

	"ledger/api"
	"ledger/sha"
)

// wrongKinds: numbers near the two kinds, kinds of other digests, and the ends of int.
var wrongKinds = []int{0, 1, 2, -1, -256, -512, 32, 64, 128, 224, 255, 257, 384, 511, 513, 768, 1024, 1<<32 + 256, math.MinInt, math.MaxInt}

// message: n bytes of no plain pattern, the same ones every time.
func message(n int) []byte {
	b := make([]byte, n)
	x := uint32(n)*2654435761 + 12345
	for i := range b {
		x = x*1664525 + 1013904223
		b[i] = byte(x >> 24)
	}
	return b
}

// rising: the n bytes 0, 1, 2, ..
func rising(n int) []byte {
	b := make([]byte, n)
	for i := range b {
		b[i] = byte(i)
	}
	return b
}

// sumOf: what the plain function of a kind answers.
func sumOf(kind int, data []byte) []byte {
	if kind == 256 {
		h := sha.Sum256(data)
		return h[:]
	}
	h := sha.Sum512(data)
	return h[:]
}

// trueSum: the same, reckoned by another program.
func trueSum(kind int, data []byte) []byte {
	if kind == 256 {
		h := sha256.Sum256(data)
		return h[:]
	}
	h := sha512.Sum512(data)
	return h[:]
}

func trueMac(key, data []byte) []byte {
	m := hmac.New(sha256.New, key)
	m.Write(data)
	return m.Sum(nil)
}

func unhex(t *testing.T, s string) []byte {
	t.Helper()
	b, err := hex.DecodeString(strings.Join(strings.Fields(s), ""))
	if err != nil {
		t.Fatal(err)
	}
	return b
}

func TestSumsOfTheExamples(t *testing.T) { // P1.1
	for _, c := range []struct {
		kind int
		data []byte
		want string
	}{
		{256, nil, "e3b0c44298fc1c149afbf4c8996fb92427ae41e4649b934ca495991b7852b855"},
		{256, []byte("abc"), "ba7816bf8f01cfea414140de5dae2223b00361a396177a9cb410ff61f20015ad"},
		{512, []byte("abc"), "ddaf35a193617abacc417349ae20413112e6fa4e89a97ea20a9eeee64b55d39a2192992a274fc1a836ba3c23a3feebbd454d4423643ce80e2a9ac94fa54ca49f"},
		{256, rising(56), "da2ae4d6b36748f2a318f23e7ab1dfdf45acdc9d049bd80e59de82a60895f562"},
		{256, rising(64), "fdeab9acf3710362bd2658cdc9a29e8f9c757fcf9811603a8c447cd1d9151108"},
	} {
		if got := sumOf(c.kind, c.data); !bytes.Equal(got, unhex(t, c.want)) {
			t.Errorf("kind %d of %d bytes: %x, want %s", c.kind, len(c.data), got, c.want)
		}
	}
}

func TestSumsOfAllLengths(t *testing.T) { // P1.1: every place in a block that a message can end at
	lengths := []int{1000, 4096, 65535, 1<<20 + 7}
	for n := range 520 {
		lengths = append(lengths, n)
	}
	for _, n := range lengths {
		data := message(n)
		for _, kind := range []int{256, 512} {
			if got, want := sumOf(kind, data), trueSum(kind, data); !bytes.Equal(got, want) {
				t.Errorf("kind %d of %d bytes: %x, want %x", kind, n, got, want)
			}
		}
	}
}

func TestSumsOfAllOnes(t *testing.T) { // P1.1: additions that wrap round, words with their highest bit
	data := bytes.Repeat([]byte{0xff}, 300)
	for n := range data {
		for _, kind := range []int{256, 512} {
			if got, want := sumOf(kind, data[:n]), trueSum(kind, data[:n]); !bytes.Equal(got, want) {
				t.Errorf("kind %d of %d bytes: %x, want %x", kind, n, got, want)
			}
		}
	}
}

func TestMacOfTheExamples(t *testing.T) { // P1.2
	for _, c := range []struct {
		key  []byte
		want string
	}{
		{[]byte("key"), "9c196e32dc0175f86f4b1cb89289d6619de6bee699e4c378e68309ed97a1a6ab"},
		{rising(65), "dfbffee4671bad00ed5d1e1999d55ed3b0cc774ac357f9ebf649c1612414fcec"},
	} {
		if got := sha.Mac(c.key, []byte("abc")); !bytes.Equal(got[:], unhex(t, c.want)) {
			t.Errorf("key of %d bytes: %x, want %s", len(c.key), got, c.want)
		}
	}
}

func TestMacOfAllKeyLengths(t *testing.T) { // P1.2: 64 as it is, 65 summed
	for n := range 200 {
		key := message(n)
		for _, size := range []int{0, 1, 55, 56, 64, 200} {
			data := message(size)
			if got, want := sha.Mac(key, data), trueMac(key, data); !bytes.Equal(got[:], want) {
				t.Errorf("key of %d bytes, data of %d: %x, want %x", n, size, got, want)
			}
		}
	}
}

func TestMacPadsAKeyWithZeros(t *testing.T) { // P1.2: so keys that part in zeros at their end alone are one key, up to 64 bytes
	key := message(20)
	want := sha.Mac(key, []byte("abc"))
	for n := 1; n <= 44; n++ {
		if got := sha.Mac(append(message(20), make([]byte, n)...), []byte("abc")); got != want {
			t.Errorf("with %d zeros: %x, want %x", n, got, want)
		}
	}
	if got := sha.Mac(append(message(20), make([]byte, 45)...), []byte("abc")); got == want {
		t.Errorf("a key of 65 bytes is not summed")
	}
}

// roundConstants: as the document lists those of kind 512.
const roundConstants = `
428a2f98d728ae22  7137449123ef65cd  b5c0fbcfec4d3b2f  e9b5dba58189dbbc
3956c25bf348b538  59f111f1b605d019  923f82a4af194f9b  ab1c5ed5da6d8118
d807aa98a3030242  12835b0145706fbe  243185be4ee4b28c  550c7dc3d5ffb4e2
72be5d74f27b896f  80deb1fe3b1696b1  9bdc06a725c71235  c19bf174cf692694
e49b69c19ef14ad2  efbe4786384f25e3  0fc19dc68b8cd5b5  240ca1cc77ac9c65
2de92c6f592b0275  4a7484aa6ea6e483  5cb0a9dcbd41fbd4  76f988da831153b5
983e5152ee66dfab  a831c66d2db43210  b00327c898fb213f  bf597fc7beef0ee4
c6e00bf33da88fc2  d5a79147930aa725  06ca6351e003826f  142929670a0e6e70
27b70a8546d22ffc  2e1b21385c26c926  4d2c6dfc5ac42aed  53380d139d95b3df
650a73548baf63de  766a0abb3c77b2a8  81c2c92e47edaee6  92722c851482353b
a2bfe8a14cf10364  a81a664bbc423001  c24b8b70d0f89791  c76c51a30654be30
d192e819d6ef5218  d69906245565a910  f40e35855771202a  106aa07032bbd1b8
19a4c116b8d2d0c8  1e376c085141ab53  2748774cdf8eeb99  34b0bcb5e19b48a8
391c0cb3c5c95a63  4ed8aa4ae3418acb  5b9cca4f7763e373  682e6ff3d6b2b8a3
748f82ee5defb2fc  78a5636f43172f60  84c87814a1f0ab72  8cc702081a6439ec
90befffa23631e28  a4506cebde82bde9  bef9a3f7b2c67915  c67178f2e372532b
ca273eceea26619c  d186b8c721c0c207  eada7dd6cde0eb1e  f57d4f7fee6ed178
06f067aa72176fba  0a637dc5a2c898a6  113f9804bef90dae  1b710b35131c471b
28db77f523047d84  32caab7b40c72493  3c9ebe0a15c9bebc  431d67c49c100d4c
4cc5d4becb3e42b6  597f299cfc657e2a  5fcb6fab3ad6faec  6c44198c4a475817`

func TestConstantsOfTheDocument(t *testing.T) { // P1.3
	all := unhex(t, roundConstants)
	var upper []byte
	for i := range 64 {
		upper = append(upper, all[8*i:8*i+4]...)
	}
	for kind, want := range map[int][]byte{256: upper, 512: all} {
		if got, e := sha.Constants(kind); e != api.OK || !bytes.Equal(got, want) {
			t.Errorf("kind %d: %x, %d, want %x", kind, got, e, want)
		}
	}
}

func TestKindsThatAreNone(t *testing.T) { // P1.3, P1.4, P0.1
	for _, kind := range wrongKinds {
		if b, e := sha.Constants(kind); b != nil || e != api.ErrKind {
			t.Errorf("Constants(%d): %x, %d", kind, b, e)
		}
		if d, e := sha.New(kind); d != nil || e != api.ErrKind {
			t.Errorf("New(%d): %v, %d", kind, d, e)
		}
	}
}

func TestNilIsEmpty(t *testing.T) { // P0.1
	none := []byte{}
	if sha.Sum256(nil) != sha.Sum256(none) || sha.Sum512(nil) != sha.Sum512(none) {
		t.Errorf("the sums part")
	}
	for _, key := range [][]byte{nil, none} {
		for _, data := range [][]byte{nil, none} {
			if got := sha.Mac(key, data); !bytes.Equal(got[:], trueMac(none, none)) {
				t.Errorf("Mac of nothing: %x", got)
			}
		}
	}
	for _, state := range [][]byte{nil, none} {
		if d, e := sha.Load(state); d != nil || e != api.ErrSaved {
			t.Errorf("Load of nothing: %v, %d", d, e)
		}
	}
}
