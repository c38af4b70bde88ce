package proof_test

import (
	"bytes"
	"math/rand"
	"slices"
	"testing"

	"ledger/api"
	"ledger/proof"
	"ledger/tlog"
)

func TestLeafAndNodeBytes(t *testing.T) { // P9.6: tlog's hashes are of these
	data := make([]byte, 300)
	for i := range data {
		data[i] = byte(i * 7)
	}
	for n := range data {
		got := proof.LeafBytes(data[:n])
		if !bytes.Equal(got, slices.Concat([]byte{0}, data[:n])) {
			t.Errorf("LeafBytes of %d bytes: %x", n, got)
		}
		if trueHash(5, got) != tlog.LeafHash(5, data[:n]) {
			t.Errorf("LeafBytes of %d bytes: LeafHash is not of it", n)
		}
	}
	l := someHashes(2)
	got := proof.NodeBytes(l[0], l[1])
	if !bytes.Equal(got, nodeBytes(l[0], l[1])) || len(got) != 65 {
		t.Errorf("NodeBytes: %x", got)
	}
	for _, k := range strengths {
		if trueHash(k, got) != tlog.NodeHash(k, l[0], l[1]) {
			t.Errorf("strength %d: NodeHash is not of NodeBytes", k)
		}
	}
	if long := make([]byte, 1<<17); len(proof.LeafBytes(long)) != 1<<17+1 {
		t.Error("LeafBytes of a long record")
	}
}

// alike: two unlike byte strings whose SHA-256 have just their first n bytes the same.
func alike(t *testing.T, n int) proof.Pair {
	t.Helper()
	met := map[string][]byte{}
	for x := range 1 << 20 {
		text := []byte{byte(x), byte(x >> 8), byte(x >> 16)}
		h := trueHash(0, text)
		other, ok := met[string(h[:n])]
		if o := trueHash(0, other); ok && o[n] != h[n] {
			return proof.Pair{A: other, B: text}
		}
		met[string(h[:n])] = text
	}
	t.Fatal("no such pair")
	return proof.Pair{}
}

func TestCollides(t *testing.T) { // P9.5: by the bytes that the strength keeps, no more and no less
	for n := range 4 {
		p := alike(t, n)
		back := proof.Pair{A: p.B, B: p.A}
		for k := -40; k <= 80; k++ {
			want := k >= 1 && k <= n
			if proof.Collides(k, p) != want || proof.Collides(k, back) != want {
				t.Errorf("strength %d, of two alike in %d bytes: not %v", k, n, want)
			}
		}
	}
	p := alike(t, 1)
	for _, k := range strengths {
		if got := proof.Collides(k, p); got != (k == 1) {
			t.Errorf("strength %d, of two alike in one byte: %v", k, got)
		}
		for _, same := range []proof.Pair{{}, {A: p.A, B: p.A}, {A: p.A, B: slices.Clone(p.A)}, {B: []byte{}}} {
			if proof.Collides(k, same) {
				t.Errorf("strength %d: %x and %x collide", k, same.A, same.B)
			}
		}
	}
}

func TestCollidesWithNoBytes(t *testing.T) { // P9.5, P0.1: nothing is a byte string too
	for x := range 1 << 16 {
		text := []byte{byte(x), byte(x >> 8)}
		if trueHash(1, text) == trueHash(1) {
			if p := (proof.Pair{A: text}); !proof.Collides(1, p) || proof.Collides(0, p) {
				t.Errorf("%x and no bytes, of one hash of strength 1", text)
			}
			return
		}
	}
	t.Fatal("no such bytes")
}

// trueCollision: P9.7 behind its checks: side by side from the leaf up.
func trueCollision(k int, n, i int64, a []byte, pa []api.Hash, b []byte, pb []api.Hash) (proof.Pair, int) {
	x, y := trueLeaf(k, a), trueLeaf(k, b)
	if x == y {
		return proof.Pair{A: append([]byte{0}, a...), B: append([]byte{0}, b...)}, 0
	}
	for j, r := range recordWay(i, area{0, n}) {
		ofA, ofB := nodeBytes(x, pa[j]), nodeBytes(y, pb[j])
		if r.b <= i {
			ofA, ofB = nodeBytes(pa[j], x), nodeBytes(pb[j], y)
		}
		if x, y = trueHash(k, ofA), trueHash(k, ofB); x == y {
			return proof.Pair{A: ofA, B: ofB}, j + 1
		}
	}
	return proof.Pair{}, -1
}

func isPair(t *testing.T, what string, got, want proof.Pair, k int, e api.Errno) {
	t.Helper()
	if e != api.OK || !bytes.Equal(got.A, want.A) || !bytes.Equal(got.B, want.B) {
		t.Errorf("%s: %x, %d, want %x", what, got, int(e), want)
	}
	if !proof.Collides(k, got) {
		t.Errorf("%s: %x does not collide", what, got)
	}
}

func TestCollideRecordsByChance(t *testing.T) { // P9.7: the lowest place at which the two climbs meet; ErrProof, if they don't at the root
	chance := rand.New(rand.NewSource(97))
	met := map[int]int{}
	for range 40000 {
		n := 1 + chance.Int63n(9)
		i := chance.Int63n(n)
		length := len(recordWay(i, area{0, n}))
		a, b := []byte{'a', byte(chance.Intn(256))}, []byte{'b', byte(chance.Intn(256))}
		pa, pb := smallHashes(chance, length), smallHashes(chance, length)
		if from := chance.Intn(length + 1); chance.Intn(2) == 0 {
			copy(pb[from:], pa[from:]) // so that they can go on together
		}
		got, e := proof.CollideRecords(1, n, i, a, pa, b, pb)
		ra := climbedRecord(1, pa, n, i, trueLeaf(1, a)).fresh[area{0, n}]
		rb := climbedRecord(1, pb, n, i, trueLeaf(1, b)).fresh[area{0, n}]
		if ra != rb {
			if e != api.ErrProof || got.A != nil || got.B != nil {
				t.Fatalf("(%d, %d) with unlike roots: %x, %d", n, i, got, int(e))
			}
			continue
		}
		want, at := trueCollision(1, n, i, a, pa, b, pb)
		isPair(t, "CollideRecords", got, want, 1, e)
		met[at]++
	}
	for at := range 4 {
		if met[at] == 0 {
			t.Errorf("no two climbs met at %d: %v", at, met)
		}
	}
}

func TestCollideRecordsThatMeetTwice(t *testing.T) { // P9.7: the first time counts, though they part again above
	chance := rand.New(rand.NewSource(7))
	a, b := twoAlike(t)
	for range 100000 {
		pa, pb := smallHashes(chance, 2), smallHashes(chance, 2)
		if pa[0] == pb[0] || climbedRecord(1, pa, 4, 1, trueLeaf(1, a)).fresh[area{0, 4}] != climbedRecord(1, pb, 4, 1, trueLeaf(1, b)).fresh[area{0, 4}] {
			continue
		}
		got, e := proof.CollideRecords(1, 4, 1, a, pa, b, pb)
		isPair(t, "records of one leaf hash", got, proof.Pair{A: append([]byte{0}, a...), B: append([]byte{0}, b...)}, 1, e)
		return
	}
	t.Fatal("no such proofs")
}

// twoAlike: two unlike records of one leaf hash of strength 1.
func twoAlike(t *testing.T) (a, b []byte) {
	t.Helper()
	a = []byte("r3")
	b = []byte("r7")
	if trueLeaf(1, a) != trueLeaf(1, b) {
		t.Fatal("their leaf hashes part")
	}
	return a, b
}

func TestCollideRecordsOfTheExamples(t *testing.T) { // P9.7
	a, b := twoAlike(t)
	got, e := proof.CollideRecords(1, 1, 0, a, nil, b, nil)
	isPair(t, "two records of one leaf hash", got, proof.Pair{A: []byte("\x00r3"), B: []byte("\x00r7")}, 1, e)
	all := someHashes(8)
	for n := int64(1); n <= 9; n++ {
		for i := range n {
			p := all[:len(recordWay(i, area{0, n}))]
			noCollision(t, 0, n, i, a, p, a, p, api.ErrNoPair)
			noCollision(t, 0, n, i, nil, p, []byte{}, p, api.ErrNoPair)
			noCollision(t, 0, n, i, a, p, b, p, api.ErrProof)
		}
	}
}

func noCollision(t *testing.T, k int, n, i int64, a []byte, pa []api.Hash, b []byte, pb []api.Hash, want api.Errno) {
	t.Helper()
	if p, e := proof.CollideRecords(k, n, i, a, pa, b, pb); p.A != nil || p.B != nil || e != want {
		t.Errorf("CollideRecords(%d, %d) of %d and %d bytes, %d and %d hashes: %x, %d, want %d", n, i, len(a), len(b), len(pa), len(pb), p, int(e), int(want))
	}
}

func TestCollideRecordsOrderOfErrors(t *testing.T) { // P9.7, P0.1
	all := someHashes(4)
	long, full := make([]byte, 1025), make([]byte, 1024)
	short := []byte("r")
	noCollision(t, 0, 0, 0, long, nil, short, all, api.ErrLong)
	noCollision(t, 0, 0, 0, short, nil, long, all, api.ErrLong)
	noCollision(t, 0, 1, 0, long, nil, long, nil, api.ErrLong)
	noCollision(t, 0, 2, 0, full, all[:1], full, all[:1], api.ErrNoPair)
	noCollision(t, 0, 2, 0, full, all[:1], short, all[:1], api.ErrProof)
	for _, c := range noRecords() {
		noCollision(t, 0, c[0], c[1], short, nil, short, nil, api.ErrArg)
		noCollision(t, 0, c[0], c[1], full, all, short, all[:1], api.ErrArg)
	}
	for la := range all {
		for lb := range all {
			if la != 2 || lb != 2 {
				noCollision(t, 0, 4, 1, short, all[:la], short, all[:lb], api.ErrProofLength)
				noCollision(t, 0, 4, 1, short, all[:la], full, all[:lb], api.ErrProofLength)
			}
		}
	}
	noCollision(t, 0, 4, 1, short, all[:2], short, all[2:4], api.ErrProof) // the records are the same, too
}

func TestCollideRecordsThatAreTheSame(t *testing.T) { // P9.7: though the two proofs are unlike and lead to one root
	chance := rand.New(rand.NewSource(77))
	for range 100000 {
		pa, pb := smallHashes(chance, 1), smallHashes(chance, 1)
		if leaf := trueLeaf(1, nil); pa[0] != pb[0] && trueNode(1, leaf, pa[0]) == trueNode(1, leaf, pb[0]) {
			noCollision(t, 1, 2, 0, nil, pa, nil, pb, api.ErrNoPair)
			return
		}
	}
	t.Fatal("no such proofs")
}

// trueTreeCollision: P9.9 behind its checks: down from the root towards the seed.
func trueTreeCollision(k int, n, m int64, a api.Hash, pa []api.Hash, b api.Hash, pb []api.Hash) (proof.Pair, int) {
	byA, byB := climbedTree(k, pa, n, m, a), climbedTree(k, pb, n, m, b)
	depth := 0
	for r := (area{0, n}); r != seedOf(n, m); depth++ {
		c := cutOf(r)
		left, right := area{r.a, c}, area{c, r.b}
		says := func(s sayings) []byte {
			if m <= c {
				return nodeBytes(s.fresh[left], s.own[right])
			}
			return nodeBytes(s.own[left], s.fresh[right])
		}
		if p := (proof.Pair{A: says(byA), B: says(byB)}); !bytes.Equal(p.A, p.B) {
			return p, depth
		}
		if r = right; m <= c {
			r = left
		}
	}
	return proof.Pair{}, -1
}

func TestCollideTreesByChance(t *testing.T) { // P9.9: the highest node whose children part
	chance := rand.New(rand.NewSource(99))
	met := map[int]int{}
	for range 60000 {
		n := 2 + chance.Int63n(8)
		m := 1 + chance.Int63n(n-1)
		length := len(treeWay(m, area{0, n}))
		pa, pb := smallHashes(chance, length), smallHashes(chance, length)
		if from := chance.Intn(length + 1); chance.Intn(4) > 0 {
			copy(pb[from:], pa[from:]) // so that they agree further up
		}
		given := smallHashes(chance, 2)
		root, a, _ := proof.ClimbTree(1, pa, n, m, given[0])
		other, b, _ := proof.ClimbTree(1, pb, n, m, given[1])
		got, e := proof.CollideTrees(1, n, root, m, a, pa, b, pb)
		if want := trueTreeErrno(root, other, a, b); want != api.OK {
			if e != want || got.A != nil || got.B != nil {
				t.Fatalf("(%d, %d): %x, %d, want %d", n, m, got, int(e), int(want))
			}
			continue
		}
		want, depth := trueTreeCollision(1, n, m, a, pa, b, pb)
		isPair(t, "CollideTrees", got, want, 1, e)
		met[depth]++
	}
	for depth := range 3 {
		if met[depth] == 0 {
			t.Errorf("no two climbs parted at %d: %v", depth, met)
		}
	}
}

func trueTreeErrno(root, other, a, b api.Hash) api.Errno {
	if root != other {
		return api.ErrProof
	}
	if a == b {
		return api.ErrNoPair
	}
	return api.OK
}

func noTreeCollision(t *testing.T, n int64, root api.Hash, m int64, a api.Hash, pa []api.Hash, b api.Hash, pb []api.Hash, want api.Errno) {
	t.Helper()
	if p, e := proof.CollideTrees(0, n, root, m, a, pa, b, pb); p.A != nil || p.B != nil || e != want {
		t.Errorf("CollideTrees(%d, %d), %d and %d hashes: %x, %d, want %d", n, m, len(pa), len(pb), p, int(e), int(want))
	}
}

func TestCollideTreesOrderOfErrors(t *testing.T) { // P9.9, P0.1
	all := someHashes(9)
	for _, c := range noTrees() {
		noTreeCollision(t, c[0], all[0], c[1], all[1], nil, all[1], all, api.ErrArg)
		noTreeCollision(t, c[0], all[0], c[1], all[0], nil, all[0], nil, api.ErrArg)
	}
	root, old := trueRoot(0, all, area{0, 7}), trueRoot(0, all, area{0, 3})
	p := trueTree(0, all, 7, 3)
	for la := range 7 {
		for lb := range 7 {
			if la != 4 || lb != 4 {
				noTreeCollision(t, 7, root, 3, old, all[:la], old, all[:lb], api.ErrProofLength)
			}
		}
	}
	noTreeCollision(t, 7, root, 3, old, p, old, p, api.ErrNoPair)
	noTreeCollision(t, 7, root, 3, old, p, all[0], p, api.ErrProof)
	noTreeCollision(t, 7, root, 3, all[0], p, old, p, api.ErrProof)
	noTreeCollision(t, 7, root, 3, all[0], p, all[0], p, api.ErrProof) // the two roots are the same, too
	noTreeCollision(t, 7, all[0], 3, old, p, old, p, api.ErrProof)
	noTreeCollision(t, 7, root, 3, old, p, old, all[:4], api.ErrProof)
	noTreeCollision(t, 7, root, 3, old, all[:4], old, p, api.ErrProof)
	noTreeCollision(t, 5, old, 5, old, nil, old, nil, api.ErrNoPair)
	noTreeCollision(t, 5, old, 5, old, nil, root, nil, api.ErrProof)
	noTreeCollision(t, 5, old, 5, root, nil, old, nil, api.ErrProof)
}
