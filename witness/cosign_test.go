package witness_test

import (
	"fmt"
	"math"
	"slices"
	"strings"
	"testing"

	"ledger/api"
	"ledger/disk"
	"ledger/note"
	"ledger/tlog"
	"ledger/witness"
)

func TestEveryStep(t *testing.T) { // P21.3: from every size to every size, with the right proof and with wrong ones
	b := trunk()
	for m := int64(0); m <= grown; m++ {
		for n := int64(0); n <= grown; n++ {
			p := pairOf(t, m)
			acts := p.d.Acts()
			right, answer, longer := b.path(m, n), api.OK, api.ErrProofLength
			if n < m {
				answer, longer = api.ErrArg, api.ErrArg
			}
			for i := range right {
				p.cosign(b.signed(n), m, turned(right, i))
				p.cosign(b.signed(n), m, slices.Delete(slices.Clone(right), i, i+1))
			}
			want(t, "one hash more", p.cosign(b.signed(n), m, append(slices.Clone(right), api.Hash{})), longer)
			for old := int64(-1); old <= grown+1; old++ {
				if old != m {
					p.cosign(b.signed(n), old, right)
				}
			}
			if p.d.Acts() != acts {
				t.Fatalf("from %d to %d: %d acts by refused ones", m, n, p.d.Acts()-acts)
			}
			want(t, fmt.Sprintf("from %d to %d", m, n), p.cosign(b.signed(n), m, right), answer)
			if done := p.d.Acts() - acts; n > m && done != 5 || n <= m && done != 0 {
				t.Fatalf("from %d to %d: %d acts", m, n, done)
			}
		}
	}
}

func TestTreesThatPart(t *testing.T) { // P21.3: a head goes on from the last one, or it is refused, with whichever proof
	a := trunk()
	for from := range grown {
		b := parted(from)
		for m := int64(1); m <= grown; m += 2 {
			for n := m; n <= grown; n++ {
				p := pairOf(t, m)
				answer := api.OK
				if m > int64(from) {
					answer = api.ErrProof
				}
				want(t, fmt.Sprintf("parted at %d, from %d to %d, by its own proof", from, m, n), p.cosign(b.signed(n), m, b.path(m, n)), answer)
			}
		}
	}
	p := pairOf(t, 6)
	b := parted(9)
	want(t, "another tree's proof", p.cosign(b.signed(14), 6, a.path(6, 14)), api.ErrProof)
	want(t, "with its own", p.cosign(b.signed(14), 6, b.path(6, 14)), api.OK)
	want(t, "back to the trunk", p.cosign(a.signed(14), 14, nil), api.ErrProof)
	want(t, "on with the trunk", p.cosign(a.signed(17), 14, a.path(14, 17)), api.ErrProof)
	want(t, "on with the branch", p.cosign(b.signed(17), 14, b.path(14, 17)), api.OK)
}

func TestRootsOfNoRecords(t *testing.T) { // P21.3: number 6, at every strength; then the root of the last head is the empty one
	for _, k := range []int{32, 0, -1, 1, 5, 31} {
		c := config()
		c.Strength = k
		p := newPair(t, c, room)
		p.open("w")
		right, cut, whole := tlog.EmptyHash(k), tlog.EmptyHash(4), tlog.EmptyHash(32)
		for _, r := range []api.Hash{right, cut, whole, {}} {
			answer := api.ErrHead
			if r == right {
				answer = api.OK
			}
			want(t, fmt.Sprintf("strength %d, root %x", k, r), p.cosign(signedBy(note.Head{Origin: origin, Root: r}, logKey), 0, nil), answer)
		}
		want(t, "with a hash", p.cosign(signedBy(note.Head{Origin: origin, Root: right}, logKey), 0, someHashes(1)), api.ErrProofLength)
		want(t, "from 1", p.cosign(signedBy(note.Head{Origin: origin, Root: right}, logKey), 1, nil), api.ErrArg)
		want(t, "any first root", p.cosign(signedBy(note.Head{Origin: origin, Size: 1 << 48, Root: api.Hash{31: 1}}, logKey), 0, nil), api.OK)
		want(t, "no records behind it", p.cosign(signedBy(note.Head{Origin: origin, Root: right}, logKey), 0, nil), api.ErrConflict)
	}
}

func TestStrengths(t *testing.T) { // P21.3: the proof is checked at the Config's strength
	for _, k := range []int{1, 2, 16, 31, 32} {
		for _, other := range []int{1, 31, 32} {
			c := config()
			c.Strength = other
			p := newPair(t, c, room)
			p.open("w")
			b := newBranch(k, origin, logKey, grown, 0)
			want(t, "the first head", p.cosign(b.signed(3), 0, nil), api.OK)
			answer := api.ErrProof
			if k == other {
				answer = api.OK
			}
			want(t, fmt.Sprintf("strength %d in the place of %d", k, other), p.cosign(b.signed(11), 3, b.path(3, 11)), answer)
		}
	}
}

// withLines: the head with the log's signature and more lines, of names that nobody knows, so that it has so many; the last is the witness's own, if that is asked for.
func withLines(h note.Head, lines int, own bool) []byte {
	text, sigs, _ := note.Split(signedBy(h, logKey, witnessKey))
	mine := sigs[1]
	mine.Bytes = []byte("no signature of its own")
	sigs = sigs[:1]
	for len(sigs) < lines {
		sigs = append(sigs, note.Signature{Name: fmt.Sprint("other", len(sigs)), Hash: mine.Hash, Bytes: []byte{1}})
	}
	if own {
		sigs[lines-1] = mine
	}
	return formatted(text, sigs)
}

func TestLinesOfACosignedNote(t *testing.T) { // P21.3, number 10: 16 lines at most; a line of the witness's own name and hash goes
	for lines := 1; lines <= 16; lines++ {
		for _, own := range []bool{false, true} {
			if own && lines == 1 {
				continue
			}
			p := pairOf(t, 1)
			answer := api.OK
			if lines == 16 && !own {
				answer = api.ErrLong
			}
			acts := p.d.Acts()
			want(t, fmt.Sprintf("%d lines, own %v", lines, own), p.cosign(withLines(trunk().head(4), lines, own), 1, trunk().path(1, 4)), answer)
			if answer != api.OK && p.d.Acts() != acts {
				t.Errorf("%d acts", p.d.Acts()-acts)
			}
		}
	}
	c := config()
	c.Signer = signerOf(logKey)
	w := opened(t, made(t), c)
	if m, e := w.Cosign(trunk().signed(2), 0, nil); e != api.OK || string(m) != string(trunk().signed(2)) {
		t.Errorf("by the log's own key: %q, %d", m, int(e))
	}
	two := signedBy(trunk().head(2), logKey, strangerKey)
	if m, e := w.Cosign(two, 2, nil); e != api.OK || string(m) != string(signedBy(trunk().head(2), strangerKey, logKey)) {
		t.Errorf("by the log's own key, which goes behind: %q, %d", m, int(e))
	}
}

// ofBytes: a signed head with one line more, so that the note has just so many bytes.
func ofBytes(h note.Head, size int) []byte {
	head := string(signedBy(h, logKey))
	more := longNote(size - len(head) + len("a\n\n"))
	return []byte(head + strings.TrimPrefix(more, "a\n\n"))
}

func TestBytesOfACosignedNote(t *testing.T) { // P21.3, numbers 1 and 10: MaxNote, of the note that is handed in and of the one that comes out
	line := len(signedBy(trunk().head(4), logKey, witnessKey)) - len(trunk().signed(4))
	for _, size := range []int{1000, 65536 - line - 1, 65536 - line, 65536 - line + 1, 65535, 65536, 65537, 70000} {
		p := pairOf(t, 1)
		head := ofBytes(trunk().head(4), size)
		if len(head) != size {
			t.Fatalf("%d bytes; want %d", len(head), size)
		}
		answer, wrong := api.OK, api.ErrProofLength
		if size+line > 65536 {
			answer = api.ErrLong
		}
		if size > 65536 {
			wrong = api.ErrLong
		}
		want(t, fmt.Sprintf("%d bytes, a wrong proof", size), p.cosign(head, 1, nil), wrong)
		want(t, fmt.Sprintf("%d bytes", size), p.cosign(head, 1, trunk().path(1, 4)), answer)
	}
}

func TestSignaturesOfTheLog(t *testing.T) { // P21.3, number 5: by that log's verifier alone, as note.Open has it
	b := trunk()
	text, sigs, _ := note.Split(signedBy(b.head(3), logKey, logKey+1, strangerKey))
	false0 := note.Signature{Name: sigs[0].Name, Hash: sigs[0].Hash, Bytes: []byte{1}}
	false2 := note.Signature{Name: sigs[2].Name, Hash: sigs[2].Hash, Bytes: []byte{1}}
	for i, x := range []struct {
		sigs []note.Signature
		e    api.Errno
	}{
		{sigs[:1], api.OK}, {sigs[1:], api.ErrUnsigned}, {[]note.Signature{sigs[2], sigs[0]}, api.OK}, {[]note.Signature{false2, sigs[0]}, api.OK},
		{[]note.Signature{false0}, api.ErrSignature}, {[]note.Signature{false0, sigs[0]}, api.ErrSignature}, {[]note.Signature{sigs[0], false0}, api.OK}, {[]note.Signature{sigs[2], false0}, api.ErrSignature},
		{[]note.Signature{{Name: sigs[0].Name, Hash: sigs[1].Hash, Bytes: sigs[0].Bytes}}, api.ErrUnsigned}, {[]note.Signature{{Name: sigs[1].Name, Hash: sigs[0].Hash, Bytes: sigs[0].Bytes}}, api.ErrUnsigned},
	} {
		p := newPair(t, configOf(origin, "log.other"), room)
		p.open("w")
		want(t, fmt.Sprint("signatures ", i), p.cosign(formatted(text, x.sigs), 0, nil), x.e)
	}
	p := newPair(t, configOf(origin, "log.other"), room)
	p.open("w")
	other := note.Head{Origin: "log.other", Size: 3, Root: b.root(3)}
	want(t, "one log's key, the other's head", p.cosign(signedBy(other, logKey), 0, nil), api.ErrUnsigned)
	want(t, "its own key", p.cosign(signedBy(other, logKey+1), 0, nil), api.OK)
}

func TestEd25519(t *testing.T) { // P21.3: both keys of the other algorithm
	logSigner, logVerifier := keys(note.AlgEd25519, 1)
	own, ownVerifier := keys(note.AlgEd25519, 2)
	c := witness.Config{Signer: own, Logs: []witness.Log{{Origin: origin, Verifier: logVerifier}}}
	p := newPair(t, c, room)
	p.open("w")
	head, _ := note.Sign(textOf(trunk().head(5)), []string{logSigner})
	want(t, "a bit turned", p.cosign(spoilt(head, 0), 0, nil), api.ErrSignature)
	want(t, "a drill's signature", p.cosign(trunk().signed(5), 0, nil), api.ErrUnsigned)
	want(t, "the head", p.cosign(head, 0, nil), api.OK)
	m, _ := p.w.Cosign(head, 5, nil)
	want(t, "Quorum", witness.Quorum(m, []string{ownVerifier, logVerifier}, 2), api.OK)
}

func TestFirstErrorHolds(t *testing.T) { // P21.3, P0.1: each case has all that would be refused further behind, on a disk that is dead
	b := trunk()
	empty := note.Head{Origin: origin, Root: api.Hash{1}}
	full := func(h note.Head) []byte { return withLines(h, 16, false) }
	none := note.Head{Origin: "else", Root: api.Hash{1}}
	bad, many, path := someHashes(64), someHashes(65), b.path(3, 11)
	for _, x := range []struct {
		what string
		head []byte
		old  int64
		path []api.Hash
		e    api.Errno
	}{
		{"65 hashes, no note", []byte("x"), -1, many, api.ErrLong}, {"a long note that is none", make([]byte, 65537), -1, nil, api.ErrLong}, {"65 hashes", b.signed(11), 3, many, api.ErrLong}, {"a long one", ofBytes(b.head(11), 65537), 3, path, api.ErrLong},
		{"no note", []byte("x"), -1, bad, api.ErrNote}, {"nil", nil, -1, bad, api.ErrNote}, {"a head without a signature", []byte(textOf(b.head(11))), 3, path, api.ErrNote}, {"a note of 65536 bytes that is none", make([]byte, 65536), 3, path, api.ErrNote},
		{"no head", signText("hello\n", strangerKey), -1, bad, api.ErrHead}, {"four lines", signText(textOf(b.head(11))+"x\n", logKey), 3, path, api.ErrHead}, {"an origin that is no name", signText("a b\n11\n"+zeroLine, logKey), 3, path, api.ErrHead}, {"a size above", signText(origin+"\n281474976710657\n"+zeroLine, logKey), 3, path, api.ErrHead},
		{"no known origin", signedBy(none, strangerKey), -1, bad, api.ErrOrigin}, {"no known origin, by the log's key", full(none), -1, bad, api.ErrOrigin},
		{"unsigned", signedBy(empty, strangerKey), -1, bad, api.ErrUnsigned}, {"a false signature", spoilt(full(empty), 0), -1, bad, api.ErrSignature},
		{"no records, another root", full(empty), -1, bad, api.ErrHead}, {"no records, another root, from 3", full(empty), 3, path, api.ErrHead},
		{"from -1", full(b.head(11)), -1, bad, api.ErrArg}, {"from 12", full(b.head(11)), 12, bad, api.ErrArg}, {"from the least", full(b.head(11)), math.MinInt64, bad, api.ErrArg}, {"from the greatest", full(b.head(11)), math.MaxInt64, bad, api.ErrArg}, {"below the last", full(b.head(2)), 3, bad, api.ErrArg}, {"no records", full(b.head(0)), 1, bad, api.ErrArg},
		{"from 2", full(b.head(11)), 2, bad, api.ErrConflict}, {"from 11", full(b.head(11)), 11, bad, api.ErrConflict}, {"from 0", full(b.head(11)), 0, bad, api.ErrConflict}, {"back", full(b.head(2)), 2, bad, api.ErrConflict}, {"back to none", full(b.head(0)), 0, bad, api.ErrConflict},
		{"a wrong length", full(b.head(11)), 3, bad, api.ErrProofLength}, {"none", full(b.head(11)), 3, nil, api.ErrProofLength}, {"the same with a hash", full(parted(2).head(3)), 3, bad[:1], api.ErrProofLength},
		{"a wrong proof", full(b.head(11)), 3, turned(path, 2), api.ErrProof}, {"another root", full(parted(2).head(3)), 3, nil, api.ErrProof},
		{"too many lines", full(b.head(11)), 3, path, api.ErrLong}, {"too many lines, no act", full(b.head(3)), 3, nil, api.ErrLong},
		{"a dead disk", b.signed(11), 3, path, api.ErrDead}, {"a dead disk, no act", b.signed(3), 3, nil, api.OK},
	} {
		p := pairOf(t, 3)
		p.fail(1, api.ErrDead)
		p.d.SyncNames()
		p.twin.SyncNames()
		want(t, x.what, p.cosign(x.head, x.old, x.path), x.e)
		has(t, x.what, p.w, b.head(3))
	}
}

func TestCosignFails(t *testing.T) { // P21.3: at each of its acts, by every fault; the last head stays, and the next Cosign goes on from that one
	a, b := trunk(), parted(4)
	for _, m := range []int64{0, 3} {
		for n := 1; n <= 6; n++ {
			for _, fault := range faults() {
				p := pairOf(t, m)
				acts := p.d.Acts()
				p.fail(n, fault)
				e := p.cosign(a.signed(9), m, a.path(m, 9))
				if n <= 5 && (e != fault || p.d.Acts() != acts+n) || n > 5 && e != api.OK {
					t.Fatalf("from %d with act %d failing: %d, %d acts", m, n, int(e), p.d.Acts()-acts)
				}
				if n <= 5 {
					has(t, "behind a fault", p.w, a.head(m))
					want(t, "the last one again", p.cosign(a.signed(m), m, nil), api.OK)
					answer := api.OK
					if fault == api.ErrDead {
						answer = api.ErrDead
					}
					want(t, "the next one, of another tree", p.cosign(b.signed(7), m, b.path(m, 7)), answer)
				}
				p.agreeBehindCrashes("Cosign")
			}
		}
	}
}

func TestTwoFaults(t *testing.T) { // P21.3: a file that was left half written is in nobody's way
	a, b := trunk(), parted(4)
	for n := 1; n <= 5; n++ {
		for m := 1; m <= 5; m++ {
			p := pairOf(t, 2)
			p.fail(n, api.ErrIO)
			want(t, "the first", p.cosign(a.signed(19), 2, a.path(2, 19)), api.ErrIO)
			p.fail(m, api.ErrFull)
			want(t, "the second", p.cosign(b.signed(6), 2, b.path(2, 6)), api.ErrFull)
			want(t, "the third", p.cosign(a.signed(5), 2, a.path(2, 5)), api.OK)
			want(t, "Open", p.open("w"), api.OK)
			has(t, "opened anew", p.w, a.head(5))
			p.agreeBehindCrashes("Open")
		}
	}
}

func TestNoRoom(t *testing.T) { // P21.3: the disk's own ErrFull
	text := int64(len(textOf(trunk().head(1))))
	for _, x := range []struct {
		room int64
		e    api.Errno
	}{{0, api.ErrFull}, {text - 1, api.ErrFull}, {text, api.OK}} {
		p := newPair(t, config(), x.room)
		p.open("w")
		want(t, fmt.Sprintf("Cosign with room %d", x.room), p.cosign(trunk().signed(1), 0, nil), x.e)
		want(t, "the next one, for which the old one stays till it is written", p.cosign(trunk().signed(2), p.b.last[origin].Size, trunk().path(p.b.last[origin].Size, 2)), api.ErrFull)
		want(t, "Open", p.open("w"), api.OK)
	}
}

func TestReadsInOpenAlone(t *testing.T) { // P21.3: somebody takes the file away, or writes over it: the witness has its heads in memory
	for _, change := range []func(d *disk.Disk){func(d *disk.Disk) { d.Remove(file) }, func(d *disk.Disk) { d.Write(file, 0, []byte("spoilt")) }} {
		p := pairOf(t, 1, 4)
		change(p.d)
		change(p.twin)
		want(t, "the same", p.cosign(trunk().signed(4), 4, nil), api.OK)
		want(t, "on", p.cosign(trunk().signed(9), 4, trunk().path(4, 9)), api.OK)
	}
}
