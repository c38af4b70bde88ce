package store_test

import (
	"crypto/sha256"
	"encoding/hex"
	"fmt"
	"slices"
	"strings"
	"testing"

	"ledger/api"
	"ledger/disk"
	"ledger/modver"
	"ledger/note"
	"ledger/store"
	"ledger/tile"
	"ledger/tlog"
)

const room = 1 << 24

// rec: record number n. Records of one n and unlike salts have one key.
func rec(n int, salt ...byte) string {
	tree := sha256.Sum256(append([]byte{byte(n), byte(n >> 8), byte(n >> 16)}, salt...))
	r, e := modver.Record(fmt.Sprintf("m.example/x%d", n), "v1.0.0", tree, [32]byte{1})
	if e != api.OK {
		panic(e)
	}
	return r
}

func keyOf(n int) string { return fmt.Sprintf("m.example/x%d@v1.0.0", n) }

// recs: the records from a to b - 1.
func recs(a, b int) []string {
	var out []string
	for n := a; n < b; n++ {
		out = append(out, rec(n))
	}
	return out
}

// keyIn: as the record's own words tell it.
func keyIn(record string) string {
	words := strings.Fields(record)
	return words[0] + "@" + words[1]
}

func signerOf(alg int, seed byte) string {
	s, _, e := note.Generate("log.example", alg, [32]byte{seed})
	if e != api.OK {
		panic(e)
	}
	return s
}

func config(height int) store.Config {
	return store.Config{Origin: "log.example", Signer: signerOf(note.AlgDrill, 1), Height: height}
}

func made(t *testing.T, room int64) *disk.Disk {
	t.Helper()
	d, e := disk.New(room)
	if e != api.OK {
		t.Fatal(e)
	}
	return d
}

func loaded(t *testing.T, files []disk.File) *disk.Disk {
	t.Helper()
	d, e := disk.Load(room, files)
	if e != api.OK {
		t.Fatal(e)
	}
	return d
}

// begun: a store of these records on a new disk.
func begun(t *testing.T, c store.Config, records ...string) (*disk.Disk, *store.Store) {
	t.Helper()
	d := made(t, room)
	s, e := store.Create(d, c)
	if s == nil || e != api.OK {
		t.Fatalf("Create = %v, %d", s, int(e))
	}
	if _, e := s.Append(records); e != api.OK {
		t.Fatalf("Append = %d", int(e))
	}
	return d, s
}

func want(t *testing.T, what string, got, e api.Errno) {
	t.Helper()
	if got != e {
		t.Errorf("%s answers %d; want %d", what, int(got), int(e))
	}
}

// told: a list of files as a text.
func told(files []disk.File) string {
	var s strings.Builder
	for _, f := range files {
		s.WriteString(f.Name + "=" + hex.EncodeToString(f.Data) + "\n")
	}
	return s.String()
}

func names(d *disk.Disk) string { return strings.Join(d.List(""), " ") }

func storedOf(k int, records []string) []api.Hash {
	var leaves []api.Hash
	for _, r := range records {
		leaves = append(leaves, tlog.LeafHash(k, []byte(r)))
	}
	stored, e := tlog.Build(k, leaves)
	if e != api.OK {
		panic(e)
	}
	return stored
}

func rootOf(k int, records []string) api.Hash {
	root, e := tlog.Root(k, storedOf(k, records), int64(len(records)))
	if e != api.OK {
		panic(e)
	}
	return root
}

// headOf: the signed head of this size and root, whether or not they belong together.
func headOf(c store.Config, size int64, root api.Hash) []byte {
	text, e := note.FormatHead(note.Head{Origin: c.Origin, Size: size, Root: root})
	if e != api.OK {
		panic(e)
	}
	head, e := note.Sign(text, []string{c.Signer})
	if e != api.OK {
		panic(e)
	}
	return head
}

func signedHead(c store.Config, records []string) []byte {
	return headOf(c, int64(len(records)), rootOf(c.Strength, records))
}

func pathOf(t tile.Tile) string {
	path, e := tile.Path(t)
	if e != api.OK {
		panic(e)
	}
	return path
}

func allTiles(h, size int) []tile.Tile {
	tiles, e := tile.All(h, int64(size))
	if e != api.OK {
		panic(e)
	}
	return tiles
}

// dataFile: of the data tile beside a hash tile of level 0.
func dataFile(records []string, t tile.Tile) disk.File {
	t.Data = true
	var held [][]byte
	for i := range t.W {
		held = append(held, []byte(records[int(t.N)<<t.H+i]))
	}
	data, e := tile.Join(held)
	if e != api.OK {
		panic(e)
	}
	return disk.File{Name: pathOf(t), Data: data}
}

// tileFiles: of these hash tiles of the log, in their order, and behind them those of the data tiles.
func tileFiles(c store.Config, records []string, tiles []tile.Tile) []disk.File {
	stored := storedOf(c.Strength, records)
	var hashes, datas []disk.File
	for _, t := range tiles {
		data, e := tile.FromTree(stored, t)
		if e != api.OK {
			panic(e)
		}
		hashes = append(hashes, disk.File{Name: pathOf(t), Data: data})
		if t.L == 0 {
			datas = append(datas, dataFile(records, t))
		}
	}
	return append(hashes, datas...)
}

func byName(a, b disk.File) int { return strings.Compare(a.Name, b.Name) }

// filesOf: the files of a log, by the chapter's words, sorted. The records may be any texts.
func filesOf(c store.Config, records []string) []disk.File {
	files := tileFiles(c, records, allTiles(c.Height, len(records)))
	files = append(files, disk.File{Name: "head", Data: signedHead(c, records)})
	slices.SortFunc(files, byName)
	return files
}

// with: the files with this one in the place of the one of its name, or beside the others.
func with(files []disk.File, name string, data []byte) []disk.File {
	return append(without(files, name), disk.File{Name: name, Data: data})
}

func without(files []disk.File, name string) []disk.File {
	return slices.DeleteFunc(slices.Clone(files), func(f disk.File) bool { return f.Name == name })
}

func dataOf(files []disk.File, name string) []byte {
	i := slices.IndexFunc(files, func(f disk.File) bool { return f.Name == name })
	if i < 0 {
		panic("no file " + name)
	}
	return slices.Clone(files[i].Data)
}

// isLog: all that a store tells is what the log of these records tells.
func isLog(t *testing.T, what string, s *store.Store, c store.Config, records []string) {
	t.Helper()
	if s.Size() != int64(len(records)) {
		t.Fatalf("%s: Size %d; want %d", what, s.Size(), len(records))
	}
	if s.Root() != rootOf(c.Strength, records) || string(s.Head()) != string(signedHead(c, records)) {
		t.Errorf("%s: Root %x, Head %q", what, s.Root(), s.Head())
	}
	for i, r := range records {
		id, ok := s.Find(keyIn(r))
		got, e := s.Record(int64(i))
		if !ok || id != int64(i) || got != r || e != api.OK {
			t.Errorf("%s: record %d: Find %d, %v; Record %q, %d", what, i, id, ok, got, int(e))
		}
	}
	if r, e := s.Record(s.Size()); r != "" || e != api.ErrArg {
		t.Errorf("%s: Record(Size) = %q, %d", what, r, int(e))
	}
	stored := storedOf(c.Strength, records)
	for i, h := range stored[:min(len(stored), 1024)] {
		if got, e := s.Hashes([]int64{int64(i)}); len(got) != 1 || got[0] != h || e != api.OK {
			t.Errorf("%s: Hashes(%d) = %x, %d", what, i, got, int(e))
		}
	}
	if got, e := s.Hashes([]int64{int64(len(stored))}); len(got) != 0 || e != api.ErrOutside {
		t.Errorf("%s: Hashes(the count) = %x, %d", what, got, int(e))
	}
}

// modverRecord: of a path and a version of the caller's own.
func modverRecord(path, version string) (string, api.Errno) {
	return modver.Record(path, version, [32]byte{2}, [32]byte{3})
}
