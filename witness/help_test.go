package witness_test

import (
	"encoding/hex"
	"fmt"
	"strings"
	"testing"

	"ledger/api"
	"ledger/disk"
	"ledger/note"
	"ledger/proof"
	"ledger/tlog"
	"ledger/witness"
)

const (
	room   = 1 << 20
	origin = "log.example"
	file   = "witness/w/6c6f672e6578616d706c65"
	strict = 32 // the strength of all trees, where nothing else is said
)

// The seeds of keys: of logs from 0 on, of the witness, of one whom nobody knows.
const (
	logKey      = 0
	witnessKey  = 90
	strangerKey = 91
)

func keys(alg int, seed byte) (signer, verifier string) {
	signer, verifier, e := note.Generate(fmt.Sprintf("key%d", seed), alg, [32]byte{seed})
	if e != api.OK {
		panic(e)
	}
	return signer, verifier
}

func signerOf(seed byte) string {
	s, _ := keys(note.AlgDrill, seed)
	return s
}

func verifierOf(seed byte) string {
	_, v := keys(note.AlgDrill, seed)
	return v
}

// config: of a witness that knows log.example.
func config() witness.Config { return configOf(origin) }

// configOf: the log of each origin has a key of its own: the first one logKey.
func configOf(origins ...string) witness.Config {
	c := witness.Config{Signer: signerOf(witnessKey), Strength: strict}
	for i, o := range origins {
		c.Logs = append(c.Logs, witness.Log{Origin: o, Verifier: verifierOf(byte(logKey + i))})
	}
	return c
}

// branch: a log's tree. Two of one origin have the same records up to the one at which the greater salt begins.
type branch struct {
	origin string
	k      int
	seed   byte
	stored []api.Hash
}

const grown = 20 // records of every branch

func newBranch(k int, origin string, seed byte, from int, salt byte) branch {
	var leaves []api.Hash
	for i := range grown {
		data := []byte{byte(i), 0}
		if i >= from {
			data[1] = salt
		}
		leaves = append(leaves, tlog.LeafHash(k, data))
	}
	stored, e := tlog.Build(k, leaves)
	if e != api.OK {
		panic(e)
	}
	return branch{origin, k, seed, stored}
}

func trunk() branch { return newBranch(strict, origin, logKey, grown, 0) }

// parted: log.example's tree, but with other records from this one on.
func parted(from int) branch { return newBranch(strict, origin, logKey, from, byte(1+from)) }

func (b branch) root(n int64) api.Hash {
	r, e := tlog.Root(b.k, b.stored, n)
	if e != api.OK {
		panic(e)
	}
	return r
}

func (b branch) head(n int64) note.Head {
	return note.Head{Origin: b.origin, Size: n, Root: b.root(n)}
}

// signed: the head of n records, signed by the branch's key.
func (b branch) signed(n int64) []byte { return signedBy(b.head(n), b.seed) }

// path: the tree proof from m to n; none, where there is none.
func (b branch) path(m, n int64) []api.Hash {
	if m < 1 || m > n {
		return nil
	}
	p, e := proof.Tree(b.k, b.stored, n, m)
	if e != api.OK {
		panic(e)
	}
	return p
}

func textOf(h note.Head) string {
	s, e := note.FormatHead(h)
	if e != api.OK {
		panic(e)
	}
	return s
}

func signedBy(h note.Head, seeds ...byte) []byte { return signText(textOf(h), seeds...) }

func signText(text string, seeds ...byte) []byte {
	var signers []string
	for _, s := range seeds {
		signers = append(signers, signerOf(s))
	}
	m, e := note.Sign(text, signers)
	if e != api.OK {
		panic(e)
	}
	return m
}

// headIn: of a note that has one.
func headIn(t *testing.T, message []byte) note.Head {
	t.Helper()
	text, _, e := note.Split(message)
	h, f := note.ParseHead(text)
	if e != api.OK || f != api.OK {
		t.Fatalf("no head: %q", message)
	}
	return h
}

// spoilt: the note with a bit turned in the signature of this number.
func spoilt(message []byte, number int) []byte {
	text, sigs, e := note.Split(message)
	if e != api.OK {
		panic(e)
	}
	sigs[number].Bytes[0] ^= 1
	return formatted(text, sigs)
}

func formatted(text string, sigs []note.Signature) []byte {
	m, e := note.Format(text, sigs)
	if e != api.OK {
		panic(e)
	}
	return m
}

// turned: the hashes with a bit turned in this one.
func turned(path []api.Hash, number int) []api.Hash {
	p := append([]api.Hash(nil), path...)
	p[number][31] ^= 1
	return p
}

func made(t *testing.T, files ...disk.File) *disk.Disk {
	t.Helper()
	d, e := disk.Load(room, files)
	if e != api.OK {
		t.Fatal(e)
	}
	return d
}

func opened(t *testing.T, d *disk.Disk, c witness.Config) *witness.Witness {
	t.Helper()
	w, e := witness.Open(d, "w", c)
	if w == nil || e != api.OK {
		t.Fatalf("Open = %v, %d", w != nil, int(e))
	}
	return w
}

// begun: a witness on a new disk that has cosigned the trunk's heads of these sizes.
func begun(t *testing.T, sizes ...int64) (*disk.Disk, *witness.Witness) {
	t.Helper()
	d := made(t)
	w := opened(t, d, config())
	old := int64(0)
	for _, n := range sizes {
		cosigned(t, w, trunk(), old, n)
		old = n
	}
	return d, w
}

// cosigned: the answer to the branch's head of n records with its proof from old on, which has to be OK.
func cosigned(t *testing.T, w *witness.Witness, b branch, old, n int64) []byte {
	t.Helper()
	m, e := w.Cosign(b.signed(n), old, b.path(old, n))
	if e != api.OK {
		t.Fatalf("Cosign of size %d from %d = %d", n, old, int(e))
	}
	return m
}

func refuses(t *testing.T, what string, w *witness.Witness, head []byte, old int64, path []api.Hash, want api.Errno) {
	t.Helper()
	if m, e := w.Cosign(head, old, path); len(m) != 0 || e != want {
		t.Errorf("%s: Cosign = %q, %d; want %d", what, m, int(e), int(want))
	}
}

// has: the last head of log.example.
func has(t *testing.T, what string, w *witness.Witness, want note.Head) {
	t.Helper()
	if h, ok := w.Head(want.Origin); h != want || !ok {
		t.Errorf("%s: Head = %+v, %v; want %+v", what, h, ok, want)
	}
}

func want(t *testing.T, what string, got, e api.Errno) {
	t.Helper()
	if got != e {
		t.Errorf("%s answers %d; want %d", what, int(got), int(e))
	}
}

// told: a list of files as a text.
func told(files []disk.File) string {
	var s strings.Builder
	for _, f := range files {
		s.WriteString(f.Name + "=" + hex.EncodeToString(f.Data) + "\n")
	}
	return s.String()
}

func names(d *disk.Disk) string { return strings.Join(d.List(""), " ") }

func faults() []api.Errno { return []api.Errno{api.ErrIO, api.ErrFull, api.ErrDead} }
