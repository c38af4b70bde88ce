package tlog_test

import (
	"crypto/sha256"
	"encoding/hex"
	"math"
	"slices"
	"testing"

	"ledger/api"
	"ledger/tlog"
)

// strengths: the edges of what is kept, and numbers that mean all of it.
var strengths = []int{0, 1, 2, 16, 30, 31, 32, 33, -1, -5, 99, math.MaxInt, math.MinInt}

// keptBytes: how many bytes of a hash a strength keeps, in the document's words.
func keptBytes(k int) int {
	for kept := 1; kept <= 31; kept++ {
		if k == kept {
			return kept
		}
	}
	return 32
}

// trueHash: of the bytes put together, by the library.
func trueHash(k int, pieces ...[]byte) (h api.Hash) {
	full := sha256.Sum256(slices.Concat(pieces...))
	copy(h[:keptBytes(k)], full[:])
	return h
}

func trueNode(k int, left, right api.Hash) api.Hash {
	return trueHash(k, []byte{1}, left[:], right[:])
}

// trueRoot: of the tree over these leaves, by its definition.
func trueRoot(k int, leaves []api.Hash) api.Hash {
	switch len(leaves) {
	case 0:
		return trueHash(k)
	case 1:
		return leaves[0]
	}
	cut := 1
	for 2*cut < len(leaves) {
		cut *= 2
	}
	return trueNode(k, trueRoot(k, leaves[:cut]), trueRoot(k, leaves[cut:]))
}

// trueFold: in the document's words, with the first one outermost.
func trueFold(k int, peaks []api.Hash) api.Hash {
	switch len(peaks) {
	case 0:
		return trueHash(k)
	case 1:
		return peaks[0]
	}
	return trueNode(k, peaks[0], trueFold(k, peaks[1:]))
}

// someHashes: n unlike hashes of 32 bytes that no strength has cut.
func someHashes(n int) []api.Hash {
	list := make([]api.Hash, n)
	for i := range list {
		list[i] = sha256.Sum256([]byte{byte(i), byte(i >> 8), byte(i >> 16), 'h'})
		list[i][31] |= 1
	}
	return list
}

// letters: the leaf hashes of the records a, b, .. of one byte each.
func letters(k, n int) []api.Hash {
	list := make([]api.Hash, n)
	for i := range list {
		list[i] = tlog.LeafHash(k, []byte{byte('a' + i)})
	}
	return list
}

// hashOf: from the hexadecimal digits of its first bytes, zeros behind.
func hashOf(t *testing.T, digits string) (h api.Hash) {
	t.Helper()
	b, err := hex.DecodeString(digits)
	if err != nil || len(b) > len(h) {
		t.Fatalf("no hash: %q", digits)
	}
	copy(h[:], b)
	return h
}

func TestHashesOfTheExamples(t *testing.T) { // P8.1
	ab := letters(0, 2)
	for _, c := range []struct {
		what string
		got  api.Hash
		want string
	}{
		{"LeafHash(0, none)", tlog.LeafHash(0, nil), "6e340b9cffb37a989ca544e6bb780a2c78901d3fb33738768511a30617afa01d"},
		{"LeafHash(2, none)", tlog.LeafHash(2, nil), "6e34"},
		{"EmptyHash(0)", tlog.EmptyHash(0), "e3b0c44298fc1c149afbf4c8996fb92427ae41e4649b934ca495991b7852b855"},
		{"EmptyHash(2)", tlog.EmptyHash(2), "e3b0"},
		{"LeafHash(0, a)", ab[0], "022a6979e6dab7aa5ae4c3e5e45f7e977112a7e63593820dbec1ec738a24f93c"},
		{"NodeHash(0, a, b)", tlog.NodeHash(0, ab[0], ab[1]), "b137985ff484fb600db93107c77b0365c80d78f5b429ded0fd97361d077999eb"},
		{"LeafHash(1, r3)", tlog.LeafHash(1, []byte("r3")), "b2"},
		{"LeafHash(1, r7)", tlog.LeafHash(1, []byte("r7")), "b2"},
	} {
		if c.got != hashOf(t, c.want) {
			t.Errorf("%s = %x, want %s", c.what, c.got, c.want)
		}
	}
}

func TestHashesOfAllStrengths(t *testing.T) { // P8.1: -40 to 80, and the ends of int
	l := someHashes(2)
	list := slices.Clone(strengths)
	for k := -40; k <= 80; k++ {
		list = append(list, k)
	}
	for _, k := range list {
		if got, want := tlog.LeafHash(k, []byte("record")), trueHash(k, []byte("\x00record")); got != want {
			t.Errorf("LeafHash(%d) = %x, want %x", k, got, want)
		}
		if got, want := tlog.NodeHash(k, l[0], l[1]), trueNode(k, l[0], l[1]); got != want {
			t.Errorf("NodeHash(%d) = %x, want %x", k, got, want)
		}
		if got, want := tlog.EmptyHash(k), trueHash(k); got != want {
			t.Errorf("EmptyHash(%d) = %x, want %x", k, got, want)
		}
	}
}

func TestLeafHashOfAllLengths(t *testing.T) { // P8.1
	data := make([]byte, 1<<17)
	for i := range data {
		data[i] = byte(i * 7)
	}
	for n := 0; n <= 300; n++ {
		if got, want := tlog.LeafHash(5, data[:n]), trueHash(5, []byte{0}, data[:n]); got != want {
			t.Errorf("of %d bytes: %x, want %x", n, got, want)
		}
	}
	if got, want := tlog.LeafHash(0, data), trueHash(0, []byte{0}, data); got != want {
		t.Errorf("of %d bytes: %x, want %x", len(data), got, want)
	}
}

func TestNodeHashTakesAnyBytes(t *testing.T) { // P8.1: the bytes of a given hash beyond the strength count too
	l := someHashes(2)
	for _, k := range strengths {
		seen := map[api.Hash]int{}
		for i := range 32 {
			turned := l[0]
			turned[i] ^= 0x80
			for _, pair := range [][2]api.Hash{{turned, l[1]}, {l[1], turned}} {
				got := tlog.NodeHash(k, pair[0], pair[1])
				if want := trueNode(k, pair[0], pair[1]); got != want {
					t.Errorf("strength %d, byte %d turned: %x, want %x", k, i, got, want)
				}
				seen[got]++
			}
		}
		if keptBytes(k) > 2 && len(seen) != 64 {
			t.Errorf("strength %d: %d unlike hashes of 64 unlike pairs", k, len(seen))
		}
	}
}

func TestFoldByDefinition(t *testing.T) { // P8.6: of any number of any hashes
	all := someHashes(100)
	for _, k := range strengths {
		for n := range all {
			if got, want := tlog.Fold(k, all[:n]), trueFold(k, all[:n]); got != want {
				t.Errorf("strength %d, of %d: %x, want %x", k, n, got, want)
			}
		}
	}
	zeros := make([]api.Hash, 3)
	if got, want := tlog.Fold(0, zeros), trueFold(0, zeros); got != want {
		t.Errorf("of three hashes of zeros: %x, want %x", got, want)
	}
}

func TestFoldOfManyHashes(t *testing.T) { // P8.6, P0.1: no list is too long
	many := someHashes(70000)
	there := many[len(many)-1]
	for i := len(many) - 2; i >= 0; i-- {
		there = trueNode(3, many[i], there)
	}
	if got := tlog.Fold(3, many); got != there {
		t.Errorf("of %d hashes: %x, want %x", len(many), got, there)
	}
}

func TestFoldOfPeaksIsTheRoot(t *testing.T) { // P8.6: with the peaks cut by hand
	all := someHashes(33)
	for n := range all {
		var peaks []api.Hash
		for rest := all[:n]; len(rest) > 0; {
			whole := 1
			for 2*whole <= len(rest) {
				whole *= 2
			}
			peaks = append(peaks, trueRoot(0, rest[:whole]))
			rest = rest[whole:]
		}
		if got, want := tlog.Fold(0, peaks), trueRoot(0, all[:n]); got != want {
			t.Errorf("of the peaks of %d records: %x, want %x", n, got, want)
		}
	}
}
