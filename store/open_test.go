package store_test

import (
	"bytes"
	"fmt"
	"math/rand"
	"slices"
	"strings"
	"testing"

	"ledger/api"
	"ledger/disk"
	"ledger/note"
	"ledger/store"
	"ledger/tile"
	"ledger/tlog"
)

// broken: Open refuses these files, and does nothing.
func broken(t *testing.T, what string, c store.Config, files []disk.File) {
	t.Helper()
	d := loaded(t, files)
	before := told(d.Files())
	if s, e := store.Open(d, c); s != nil || e != api.ErrBroken {
		t.Errorf("%s: Open = %v, %d; want %d", what, s != nil, int(e), int(api.ErrBroken))
	}
	if d.Acts() != 0 || told(d.Files()) != before {
		t.Errorf("%s: Open has changed what is broken", what)
	}
}

func opens(t *testing.T, what string, c store.Config, files []disk.File, records []string) *store.Store {
	t.Helper()
	s, e := store.Open(loaded(t, files), c)
	if s == nil || e != api.OK {
		t.Fatalf("%s: Open = %d", what, int(e))
	}
	isLog(t, what, s, c, records)
	return s
}

func TestOpenOfFiles(t *testing.T) { // P13.3: of the files of every small log, by the chapter's words; one act
	for h := 1; h <= 8; h++ {
		for n := range 20 {
			c := config(h)
			d := loaded(t, filesOf(c, recs(0, n)))
			s, e := store.Open(d, c)
			if e != api.OK || d.Acts() != 1 {
				t.Fatalf("height %d, %d records: Open = %d, %d acts", h, n, int(e), d.Acts())
			}
			isLog(t, "opened", s, c, recs(0, n))
		}
	}
}

func TestOpenRefuses(t *testing.T) { // P13.3, P0.1: ErrDead ahead of ErrNoLog ahead of ErrBroken
	c := config(1)
	for _, files := range [][]disk.File{nil, leftovers(), without(filesOf(c, recs(0, 3)), "head"), with(nil, "head.new", signedHead(c, nil))} {
		p := newPair(t, c, room, files...)
		want(t, "Open without a head", p.open(), api.ErrNoLog)
		if p.d.Acts() != 0 {
			t.Errorf("%d acts", p.d.Acts())
		}
		p.d.Crash(nil)
		p.twin.Crash(nil)
		want(t, "Open of a dead disk", p.open(), api.ErrDead)
	}
	d := loaded(t, with(nil, "head", []byte("x")))
	d.Crash(nil)
	_, e := store.Open(d, c)
	want(t, "Open of a dead disk with a broken log", e, api.ErrDead)
}

func TestEveryFileIsAskedFor(t *testing.T) { // P13.3: each file missing, empty, cut, longer, another's, or with any one byte turned
	for _, h := range []int{1, 2, 8} {
		c := config(h)
		files := filesOf(c, recs(0, 5))
		opens(t, "as they are", c, files, recs(0, 5))
		for i, f := range files {
			if f.Name != "head" {
				broken(t, f.Name+" missing", c, without(files, f.Name))
			}
			spoilt := [][]byte{nil, f.Data[:len(f.Data)-1], f.Data[1:], append(slices.Clone(f.Data), 0), append(slices.Clone(f.Data), f.Data...), slices.Clone(files[(i+1)%len(files)].Data)}
			for at := range f.Data {
				turned := slices.Clone(f.Data)
				turned[at] ^= 1 << (at % 8)
				spoilt = append(spoilt, turned)
			}
			for j, data := range spoilt {
				broken(t, fmt.Sprintf("height %d, %s spoilt, way %d", h, f.Name, j), c, with(files, f.Name, data))
			}
		}
	}
}

func TestOpenUnderAnotherConfig(t *testing.T) { // P13.3: the log has to be of this config
	c := config(2)
	for _, n := range []int{0, 1, 6} {
		files := filesOf(c, recs(0, n))
		for _, k := range []int{32, -7, 33, 1 << 40} {
			other := c
			other.Strength = k
			opens(t, "another number for all 32 bytes", other, files, recs(0, n))
		}
		for i := range 5 {
			other := c
			switch i {
			case 0:
				other.Origin = "log.other"
			case 1:
				other.Signer = signerOf(note.AlgDrill, 2)
			case 2:
				other.Signer = signerOf(note.AlgEd25519, 1)
			case 3:
				other.Strength = 31
			case 4:
				other.Height = 1
			}
			if i == 4 && n == 0 { // a log without records has no tiles
				opens(t, "another height", other, files, nil)
			} else {
				broken(t, fmt.Sprintf("%d records under config %d", n, i), other, files)
			}
		}
	}
}

func TestHeadsThatAreNone(t *testing.T) { // P13.3: byte by byte the signed head of the log, by this signer alone
	c := config(1)
	for _, n := range []int{0, 3} {
		records := recs(0, n)
		files, head := filesOf(c, records), signedHead(c, records)
		text, sigs, _ := note.Split(head)
		both, _ := note.AddSignatures(head, []string{signerOf(note.AlgDrill, 2)})
		other, _ := note.Sign(text, []string{signerOf(note.AlgDrill, 2)})
		twice, _ := note.Format(text, append(sigs, sigs...))
		longer, _ := note.Sign(text+"more\n", []string{c.Signer})
		blank, _ := note.Sign(text+"\n", []string{c.Signer})
		plain, _ := note.Sign("hello\n", []string{c.Signer})
		zeros, _ := note.Sign(strings.Replace(text, "\n", "\n0", 1), []string{c.Signer})
		false1 := slices.Clone(sigs[0].Bytes)
		false1[0] ^= 1
		forged, _ := note.Format(text, []note.Signature{{Name: sigs[0].Name, Hash: sigs[0].Hash, Bytes: false1}})
		for i, bad := range [][]byte{both, other, twice, longer, blank, plain, zeros, forged, []byte(text), nil, bytes.Repeat([]byte("a\n"), 1<<17)} {
			broken(t, fmt.Sprintf("head %d", i), c, with(files, "head", bad))
		}
		root := rootOf(0, records)
		root[31] ^= 1
		broken(t, "another root, rightly signed", c, with(files, "head", headOf(c, int64(n), root)))
		for _, size := range []int64{int64(n) + 1, 4, 5, 65536, 65537, 1 << 48} {
			broken(t, "another size, rightly signed", c, with(files, "head", headOf(c, size, rootOf(0, records))))
		}
	}
}

func TestHeadOfOtherRecords(t *testing.T) { // P13.3: what the size asks for decides, not what else lies there
	c := config(1)
	for n := range 12 {
		files := filesOf(c, recs(0, n))
		for m := range n + 3 {
			head := with(files, "head", signedHead(c, recs(0, m)))
			if m == n || m == 0 {
				opens(t, "a head for which all is there", c, head, recs(0, m))
				continue
			}
			ask, all := filesOf(c, recs(0, m)), true
			for _, f := range ask {
				_, e := loaded(t, head).Read(f.Name)
				all = all && e == api.OK
			}
			if all { // a smaller tree of full tiles
				opens(t, "a smaller head for which all is there", c, head, recs(0, m))
			} else {
				broken(t, fmt.Sprintf("the files of %d, the head of %d", n, m), c, head)
			}
		}
	}
}

func TestRecordsThatAreNone(t *testing.T) { // P13.3: whole and rightly signed, but of no log
	good := recs(0, 4)
	bad := map[string]string{"no text": "", "no record": "x", "one line": strings.SplitAfter(rec(9), "\n")[0], "two records": rec(8) + rec(9), "no end": strings.TrimSuffix(rec(9), "\n"), "no path": strings.ReplaceAll(rec(9), "m.example", "M"), "no version": strings.ReplaceAll(rec(9), "v1.0.0", "v1"), "no sum": strings.ReplaceAll(rec(9), "h1:", "h2:"), "too long": strings.Repeat("x", 1024),
		"a key twice": rec(2, 7), "a record twice": rec(0)}
	for _, h := range []int{1, 3} {
		c := config(h)
		opens(t, "records alone", c, filesOf(c, append(slices.Clone(good), rec(9))), append(slices.Clone(good), rec(9)))
		for what, r := range bad {
			broken(t, what, c, filesOf(c, append(slices.Clone(good), r)))
			broken(t, what, c, filesOf(c, append([]string{r}, good...)))
		}
	}
}

func TestDataOfAnotherLog(t *testing.T) { // P13.3: data tiles of other records, and hash tiles of them
	c := config(1)
	mine, other := recs(0, 4), append(recs(0, 3), rec(3, 1))
	files, others := filesOf(c, mine), filesOf(c, other)
	for _, f := range others {
		if !bytes.Equal(f.Data, dataOf(files, f.Name)) {
			broken(t, f.Name+" of another log", c, with(files, f.Name, f.Data))
		}
	}
	swapped := with(with(files, "tile/1/data/000", dataOf(files, "tile/1/data/001")), "tile/1/data/001", dataOf(files, "tile/1/data/000"))
	broken(t, "data tiles swapped", c, swapped)
}

// collision: two records of one key and one leaf hash of strength k.
func collision(k int) (a, b string) {
	first := map[api.Hash]string{}
	for salt := range 1 << 16 {
		r := rec(1, byte(salt), byte(salt>>8))
		h := tlog.LeafHash(k, []byte(r))
		if there, ok := first[h]; ok {
			return there, r
		}
		first[h] = r
	}
	panic("none")
}

func TestWeakLogs(t *testing.T) { // P13.3, P13.9: one head, unlike data tiles: the log is the one of the data tiles
	c := config(2)
	c.Strength = 1
	a, b := collision(1)
	one, two := []string{rec(0), a, rec(2)}, []string{rec(0), b, rec(2)}
	files := filesOf(c, one)
	const data = "tile/2/data/000.p/3"
	others := with(files, data, dataOf(filesOf(c, two), data))
	slices.SortFunc(others, byName)
	if told(others) != told(filesOf(c, two)) {
		t.Fatal("the two logs differ in more than their records")
	}
	opens(t, "the one", c, files, one)
	opens(t, "the other", c, others, two)

	d := loaded(t, files)
	s, _ := store.Open(d, c)
	d.Create(data)
	d.Write(data, 0, dataOf(others, data))
	_, e := s.Tile(tile.Tile{H: 2, W: 3, Data: true})
	want(t, "Tile of the other's records", e, api.ErrBroken)
	_, e = s.Tile(tile.Tile{H: 2, W: 3})
	want(t, "Tile of the hashes", e, api.OK)
}

// beyond: names that a log of 3 records and height 1 has no file of.
func beyond() []string {
	return []string{"head.new", "tile/1/0/000.p/1", "tile/1/0/001", "tile/1/0/002.p/1", "tile/1/1/000", "tile/1/2/000.p/1", "tile/1/10/000.p/1", "tile/1/data/000.p/1", "tile/1/data/001", "tile/2/0/000.p/3", "tile/2/data/000.p/3", "tile/1/0/00", "tile/1/0/000.p/2", "tile/1/0/x000/000", "tile/01/0/000", "tile/x", "tile/~"}
}

func TestOpenRemovesWhatLiesBeyond(t *testing.T) { // P13.3: and nothing else, each act in its turn, whichever fails and however; without room
	c := config(1)
	files := filesOf(c, recs(0, 3))
	for i, n := range beyond() {
		files = append(files, disk.File{Name: n, Data: []byte{byte(i)}})
	}
	for _, n := range []string{"other", "headx", "head.newer", "tile", "tile.x", "cache/a/head", "a", "~"} {
		files = append(files, disk.File{Name: n, Data: []byte(n)})
	}
	size := 0
	for _, f := range files {
		size += len(f.Data)
	}
	acts := len(beyond()) + 1
	for _, fault := range []api.Errno{api.ErrIO, api.ErrFull, api.ErrDead} {
		for n := 0; n <= acts+1; n++ {
			p := newPair(t, c, int64(size), files...)
			p.logs = append(p.logs, recs(0, 3))
			p.fail(n, fault)
			e := p.open()
			if failed := n >= 1 && n <= acts; failed && e != fault || !failed && (e != api.OK || p.d.Acts() != acts || p.d.Pending() != 0) {
				t.Errorf("Open with act %d failing = %d, %d acts", n, int(e), p.d.Acts())
			}
			if e != api.OK && fault != api.ErrDead {
				p.fail(0, fault)
				want(t, "Open again", p.open(), api.OK)
				want(t, "Open a third time", p.open(), api.OK)
			}
			p.agreeBehindCrashes("Open")
		}
	}
}

func TestOpenOfSpoiltDisks(t *testing.T) { // P13.3, P0.1: any files under the store's names: refused, or the log that was there
	c := config(1)
	met := 0
	for seed := range 1500 {
		r := rand.New(rand.NewSource(int64(seed)))
		n := r.Intn(7)
		files := filesOf(c, recs(0, n))
		for range 1 + r.Intn(3) {
			f := files[r.Intn(len(files))]
			other := files[r.Intn(len(files))]
			switch r.Intn(5) {
			case 0:
				files = with(files, other.Name, f.Data)
			case 1:
				files = with(files, f.Name, f.Data[:r.Intn(len(f.Data)+1)])
			case 2:
				files = with(files, beyond()[r.Intn(len(beyond()))], f.Data)
			case 3:
				if len(files) > 1 {
					files = without(files, f.Name)
				}
			case 4:
				files = with(files, f.Name, append(slices.Clone(f.Data), other.Data...))
			}
		}
		p := newPair(t, c, room, files...)
		for m := range 8 {
			p.logs = append(p.logs, recs(0, m))
		}
		if p.open() == api.OK {
			met++
		}
		if t.Failed() {
			t.Fatalf("seed %d", seed)
		}
	}
	if met < 100 || met > 1400 {
		t.Errorf("%d of 1500 disks had a log", met)
	}
}
