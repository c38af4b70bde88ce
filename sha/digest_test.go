package sha_test

import (
	"bytes"
	"crypto/sha256"
	"crypto/sha512"
	"encoding"
	"encoding/binary"
	"hash"
	"math"
	"sync"
	"testing"

	"ledger/api"
	"ledger/sha"
)

const maxCount = 1<<61 - 1

var kinds = []int{256, 512}

func blockOf(kind int) int { return kind / 4 }

func chainOf(kind int) int { return kind / 8 }

func fresh(t *testing.T, kind int) *sha.Digest {
	t.Helper()
	d, e := sha.New(kind)
	if e != api.OK || d == nil {
		t.Fatalf("New(%d): %v, %d", kind, d, e)
	}
	return d
}

func load(t *testing.T, state []byte) *sha.Digest {
	t.Helper()
	d, e := sha.Load(state)
	if e != api.OK || d == nil {
		t.Fatalf("Load(%x): %v, %d", state, d, e)
	}
	return d
}

// stateOf: a saved state, laid out by hand.
func stateOf(kind int, count uint64, chain, rest []byte) []byte {
	b := binary.BigEndian.AppendUint64([]byte{byte(kind / 256)}, count)
	b = append(b, chain...)
	return append(b, rest...)
}

func startOf(t *testing.T, kind int) []byte {
	if kind == 256 {
		return unhex(t, "6a09e667bb67ae853c6ef372a54ff53a510e527f9b05688c1f83d9ab5be0cd19")
	}
	return unhex(t, "6a09e667f3bcc908bb67ae8584caa73b3c6ef372fe94f82ba54ff53a5f1d36f1510e527fade682d19b05688c2b3e6c1f1f83d9abfb41bd6b5be0cd19137e2179")
}

// trueDigest: another program's digest of that chain, count and rest.
func trueDigest(t *testing.T, kind int, count uint64, chain, rest []byte) hash.Hash {
	t.Helper()
	h, mark := sha256.New(), "sha\x03"
	if kind == 512 {
		h, mark = sha512.New(), "sha\x07"
	}
	b := append([]byte(mark), chain...)
	b = append(b, rest...)
	b = append(b, make([]byte, blockOf(kind)-len(rest))...)
	if err := h.(encoding.BinaryUnmarshaler).UnmarshalBinary(binary.BigEndian.AppendUint64(b, count)); err != nil {
		t.Fatal(err)
	}
	return h
}

// trueChain: another program's chain behind the whole blocks of data.
func trueChain(t *testing.T, kind int, data []byte) []byte {
	t.Helper()
	h := sha256.New()
	if kind == 512 {
		h = sha512.New()
	}
	h.Write(data)
	b, err := h.(encoding.BinaryMarshaler).MarshalBinary()
	if err != nil {
		t.Fatal(err)
	}
	return b[4 : 4+chainOf(kind)]
}

func TestNewHasNothingWritten(t *testing.T) { // P1.4
	for _, kind := range kinds {
		d := fresh(t, kind)
		if d.Written() != 0 || !bytes.Equal(d.Sum(), trueSum(kind, nil)) || !bytes.Equal(d.Save(), stateOf(kind, 0, startOf(t, kind), nil)) {
			t.Errorf("kind %d: %d written, sum %x, saved %x", kind, d.Written(), d.Sum(), d.Save())
		}
	}
}

func TestWriteInTwoPieces(t *testing.T) { // P1.5: every cut around one and two blocks
	for _, kind := range kinds {
		for _, n := range []int{1, 63, 64, 65, 127, 128, 129, 200, 256, 257} {
			data := message(n)
			want := trueSum(kind, data)
			for cut := 0; cut <= n; cut++ {
				d := fresh(t, kind)
				d.Write(data[:cut])
				d.Write(data[cut:])
				if got := d.Sum(); !bytes.Equal(got, want) || d.Written() != int64(n) {
					t.Fatalf("kind %d, %d bytes cut at %d: %x, %d written", kind, n, cut, got, d.Written())
				}
			}
		}
	}
}

func TestWriteInManyPieces(t *testing.T) { // P1.5, P1.6: asked between the pieces, some of them empty
	data := message(3000)
	for _, kind := range kinds {
		for step := 1; step < 300; step += 7 {
			d := fresh(t, kind)
			for i := 0; i < len(data); i += step {
				d.Write(data[i:min(i+step, len(data))])
				d.Write(nil)
				d.Write([]byte{})
				done := min(i+step, len(data))
				if d.Written() != int64(done) {
					t.Fatalf("kind %d, pieces of %d: %d written, want %d", kind, step, d.Written(), done)
				}
				if got := d.Sum(); !bytes.Equal(got, trueSum(kind, data[:done])) {
					t.Fatalf("kind %d, pieces of %d, behind %d bytes: %x", kind, step, done, got)
				}
			}
		}
	}
}

func TestWriteAboveTheLimitIsLeftOut(t *testing.T) { // P1.5
	for _, kind := range kinds {
		for _, room := range []int{0, 1, 5, 63, 64, 65, 127, 128, 129, 300} {
			count := uint64(maxCount - room)
			rest := message(int(count % uint64(blockOf(kind))))
			d := load(t, stateOf(kind, count, message(chainOf(kind)), rest))
			before, sum := d.Save(), d.Sum()
			d.Write(message(room + 1))
			d.Write(message(room + 1000))
			if d.Written() != int64(count) || !bytes.Equal(d.Save(), before) || !bytes.Equal(d.Sum(), sum) {
				t.Errorf("kind %d, room %d: a write that is too long changes something: %d written", kind, room, d.Written())
			}
			other := trueDigest(t, kind, count, message(chainOf(kind)), rest)
			d.Write(message(room))
			other.Write(message(room))
			if d.Written() != maxCount || !bytes.Equal(d.Sum(), other.Sum(nil)) {
				t.Errorf("kind %d, room %d: a write up to the limit: %d written, %x, want %x", kind, room, d.Written(), d.Sum(), other.Sum(nil))
			}
			d.Write([]byte{1})
			d.Write(nil)
			if d.Written() != maxCount || !bytes.Equal(d.Sum(), other.Sum(nil)) {
				t.Errorf("kind %d, room %d: a write behind the limit: %d written, %x", kind, room, d.Written(), d.Sum())
			}
		}
	}
}

func TestSumDoesNotDisturb(t *testing.T) { // P1.6
	for _, kind := range kinds {
		for n := range 300 {
			d := fresh(t, kind)
			d.Write(message(n))
			state := d.Save()
			first, second := d.Sum(), d.Sum()
			if len(first) != chainOf(kind) || !bytes.Equal(first, second) || !bytes.Equal(d.Save(), state) || d.Written() != int64(n) {
				t.Errorf("kind %d, %d bytes: %x, then %x", kind, n, first, second)
			}
		}
	}
}

func TestReset(t *testing.T) { // P1.6
	for _, kind := range kinds {
		for _, n := range []int{0, 1, 63, 64, 127, 128, 200} {
			written := fresh(t, kind)
			written.Write(message(n))
			loaded := load(t, stateOf(kind, uint64(maxCount), message(chainOf(kind)), message(blockOf(kind)-1)))
			for _, d := range []*sha.Digest{written, loaded} {
				d.Reset()
				if d.Written() != 0 || !bytes.Equal(d.Save(), fresh(t, kind).Save()) {
					t.Errorf("kind %d behind %d bytes: %d written, saved %x", kind, n, d.Written(), d.Save())
				}
				d.Write([]byte("abc"))
				if !bytes.Equal(d.Sum(), trueSum(kind, []byte("abc"))) || d.Written() != 3 {
					t.Errorf("kind %d behind %d bytes and Reset: %x", kind, n, d.Sum())
				}
			}
		}
	}
}

func TestSaveOfAllLengths(t *testing.T) { // P1.7
	for _, kind := range kinds {
		for n := range 400 {
			data := message(n)
			d := fresh(t, kind)
			d.Write(data)
			whole := n - n%blockOf(kind)
			want := stateOf(kind, uint64(n), trueChain(t, kind, data[:whole]), data[whole:])
			if got := d.Save(); !bytes.Equal(got, want) {
				t.Errorf("kind %d, %d bytes: %x, want %x", kind, n, got, want)
			}
		}
	}
	d := fresh(t, 256)
	d.Write([]byte("abc"))
	if want := unhex(t, "01 0000000000000003 6a09e667 bb67ae85 3c6ef372 a54ff53a 510e527f 9b05688c 1f83d9ab 5be0cd19 616263"); !bytes.Equal(d.Save(), want) {
		t.Errorf("the example: %x, want %x", d.Save(), want)
	}
}

func TestLoadTakesUpWhatWasSaved(t *testing.T) { // P1.8, P1.6: the two go on alike, and apart
	more := message(333)
	for _, kind := range kinds {
		for n := range 300 {
			d := fresh(t, kind)
			d.Write(message(n))
			g := load(t, d.Save())
			if !bytes.Equal(g.Save(), d.Save()) || g.Written() != int64(n) || !bytes.Equal(g.Sum(), d.Sum()) {
				t.Fatalf("kind %d, %d bytes: loaded as %x", kind, n, g.Save())
			}
			d.Write(more)
			if g.Written() != int64(n) || !bytes.Equal(g.Sum(), trueSum(kind, message(n))) {
				t.Fatalf("kind %d, %d bytes: the loaded one follows the other", kind, n)
			}
			g.Write(more[:100])
			g = load(t, g.Save())
			g.Write(more[100:])
			if want := trueSum(kind, append(message(n), more...)); !bytes.Equal(g.Sum(), want) || !bytes.Equal(d.Sum(), want) || g.Written() != int64(n+333) {
				t.Fatalf("kind %d, %d bytes and more: %x and %x, want %x", kind, n, g.Sum(), d.Sum(), want)
			}
		}
	}
}

func TestLoadTakesAnyChain(t *testing.T) { // P1.8: behind one whole block, with counts up to the limit
	for _, kind := range kinds {
		block := uint64(blockOf(kind))
		for i, count := range []uint64{block, block + 1, 2*block - 1, 1000, 1 << 29, 1<<32 - 1, 1<<32 + 5, 1 << 60, maxCount - 1000, maxCount - 64} {
			chain, rest := message(chainOf(kind) + i)[i:], message(int(count%block))
			state := stateOf(kind, count, chain, rest)
			d := load(t, state)
			other := trueDigest(t, kind, count, chain, rest)
			if !bytes.Equal(d.Save(), state) || d.Written() != int64(count) || !bytes.Equal(d.Sum(), other.Sum(nil)) {
				t.Errorf("kind %d, count %d: sum %x, want %x", kind, count, d.Sum(), other.Sum(nil))
			}
			for _, n := range []int{1, 40, 23} {
				d.Write(message(n))
				other.Write(message(n))
				if !bytes.Equal(d.Sum(), other.Sum(nil)) {
					t.Errorf("kind %d, count %d and %d more: sum %x, want %x", kind, count, n, d.Sum(), other.Sum(nil))
				}
			}
		}
	}
}

func refused(t *testing.T, what string, state []byte) {
	t.Helper()
	if d, e := sha.Load(state); d != nil || e != api.ErrSaved {
		t.Errorf("%s: Load(%x): %v, %d", what, state, d, e)
	}
}

func TestLoadRefusesOtherKinds(t *testing.T) { // P1.8
	for _, kind := range kinds {
		for first := range 256 {
			state := stateOf(kind, 3, startOf(t, kind), []byte("abc"))
			state[0] = byte(first)
			if first != kind/256 {
				refused(t, "first byte", state)
			}
		}
	}
}

func TestLoadRefusesOtherLengths(t *testing.T) { // P1.8
	for _, kind := range kinds {
		for _, n := range []int{0, 1, blockOf(kind) - 1, blockOf(kind), blockOf(kind) + 1, 2*blockOf(kind) + 5} {
			d := fresh(t, kind)
			d.Write(message(n))
			state := d.Save()
			for size := range state {
				refused(t, "cut", state[:size])
			}
			for more := 1; more < 300; more++ {
				refused(t, "lengthened", append(d.Save(), make([]byte, more)...))
			}
		}
	}
}

func TestLoadRefusesCounts(t *testing.T) { // P1.8: above the limit, with just the rest that the count asks for
	for _, kind := range kinds {
		block := uint64(blockOf(kind))
		for _, count := range []uint64{maxCount + 1, maxCount + 4, 1 << 62, 1<<63 - 1, 1 << 63, 1<<63 + 3, math.MaxUint64 - 64, math.MaxUint64} {
			refused(t, "count", stateOf(kind, count, startOf(t, kind), message(int(count%block))))
			refused(t, "count", stateOf(kind, count, message(chainOf(kind)), message(int(count%block))))
		}
		load(t, stateOf(kind, maxCount, message(chainOf(kind)), message(int(maxCount%block))))
	}
}

func TestLoadRefusesAChainOfNoBlock(t *testing.T) { // P1.8
	for _, kind := range kinds {
		for i := range chainOf(kind) {
			chain := startOf(t, kind)
			chain[i] ^= 1 << (i % 8)
			for _, n := range []int{0, 3, blockOf(kind) - 1} {
				refused(t, "chain", stateOf(kind, uint64(n), chain, message(n)))
			}
			load(t, stateOf(kind, uint64(blockOf(kind)), chain, nil))
		}
	}
}

func TestLoadEndsAtAllBytes(t *testing.T) { // P0.1: whatever is loaded can be asked everything
	for n := range 400 {
		for first := range 4 {
			state := append([]byte{byte(first), 0x1f, 0xff, 0xff, 0xff, 0xff, 0xff, 0xff, byte(n)}, message(n)...)
			d, e := sha.Load(state)
			if (d == nil) != (e == api.ErrSaved) || d != nil && e != api.OK {
				t.Fatalf("Load(%x): %v, %d", state, d, e)
			}
			if d == nil {
				continue
			}
			if !bytes.Equal(d.Save(), state) {
				t.Errorf("Load(%x) saves as %x", state, d.Save())
			}
			d.Write(message(n))
			d.Sum()
			d.Reset()
			d.Written()
		}
	}
}

func TestDigestsDoNotDisturbOneAnother(t *testing.T) { // P1.9
	data := message(4000)
	var all []*sha.Digest
	for i := range 40 {
		all = append(all, fresh(t, kinds[i%2]))
	}
	done := make([]int, len(all))
	for round := range 50 {
		for i, d := range all {
			n := (i*7 + round*13) % 80
			d.Write(data[done[i] : done[i]+n])
			done[i] += n
			switch (i + round) % 11 {
			case 3:
				d.Sum()
			case 5:
				d.Save()
			case 7:
				all[i] = load(t, d.Save())
				d.Write(data)
			case 9:
				d.Reset()
				done[i] = 0
			}
			sha.Sum256(data[:n])
			sha.Mac(data[:n], data)
		}
	}
	for i, d := range all {
		if got, want := d.Sum(), trueSum(kinds[i%2], data[:done[i]]); !bytes.Equal(got, want) || d.Written() != int64(done[i]) {
			t.Errorf("digest %d of %d bytes: %x, want %x", i, done[i], got, want)
		}
	}
}

func TestDigestsSideBySide(t *testing.T) { // P1.9: each in a goroutine of its own
	sums := make([][]byte, 16)
	var group sync.WaitGroup
	for i := range sums {
		d := fresh(t, kinds[i%2])
		group.Go(func() {
			for range 100 {
				d.Write(message(i + 50))
			}
			sums[i] = d.Sum()
		})
	}
	group.Wait()
	for i, got := range sums {
		if want := trueSum(kinds[i%2], bytes.Repeat(message(i+50), 100)); !bytes.Equal(got, want) {
			t.Errorf("digest %d: %x, want %x", i, got, want)
		}
	}
}
