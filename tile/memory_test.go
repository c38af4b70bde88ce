package tile_test

import (
	"bytes"
	"fmt"
	"slices"
	"sync"
	"testing"

	"ledger/api"
	"ledger/tile"
)

// roomy: the items with room behind them, which an append would fill, and all of it.
func roomy[T any](items []T, rest ...T) (given, all []T) {
	all = slices.Concat(items, rest)
	return all[:len(items)], all
}

// spoil: overwrites a list and the room behind it.
func spoil[T any](list []T, with T) {
	list = list[:cap(list)]
	for i := range list {
		list[i] = with
	}
}

// usual: a reading that is answered.
func usual() asked { return rightly(grown{0, someHashes(21)}, 0, 2, 21, []int64{3, 20, 3}) }

func TestHashesAndPlacesStayAsTheyAre(t *testing.T) { // P0.2
	stored, rest := trueStored(grown{0, someHashes(7)}), someHashes(20)
	given, all := roomy(stored, rest...)
	tile.FromTree(given, at(2, 0, 1, 3))
	tile.FromTree(given, at(2, 0, 1, 4))
	if !slices.Equal(all, slices.Concat(stored, rest)) {
		t.Error("FromTree changes the list that it is handed, or the room behind it")
	}
	places, everything := roomy([]int64{9, 0, 9, 3}, 5, 4, 3, 2, 1)
	tile.Plan(2, 7, places)
	tile.Plan(2, 5, places)
	a := usual()
	a.places = places
	a.read()
	if !slices.Equal(everything, []int64{9, 0, 9, 3, 5, 4, 3, 2, 1}) {
		t.Errorf("Plan or Read changes its places, or the room behind them: %v", everything)
	}
}

func TestTilesAndDatasStayAsTheyAre(t *testing.T) { // P0.2
	for _, k := range []int{0, 1} {
		a := rightly(grown{k, someHashes(21)}, k, 2, 21, everyPlace(21))
		want := a.copied()
		behind := []tile.Tile{at(1, 2, 3, 4), at(5, 6, 7, 8)}
		var allTiles []tile.Tile
		var allDatas [][]byte
		a.tiles, allTiles = roomy(a.tiles, behind...)
		a.datas, allDatas = roomy(a.datas, []byte("behind"), []byte("them"))
		var wholes [][]byte
		for i := range a.datas {
			given, whole := roomy(a.datas[i], []byte("behind it")...)
			a.datas[i] = given
			wholes = append(wholes, whole)
		}
		if _, e := a.read(); e != api.OK {
			t.Fatalf("Read: %d", int(e))
		}
		a.root = api.Hash{}
		a.read()
		if !slices.Equal(allTiles, slices.Concat(want.tiles, behind)) {
			t.Error("Read changes its tiles, or the room behind them")
		}
		if !slices.EqualFunc(allDatas, append(want.datas, []byte("behind"), []byte("them")), bytes.Equal) {
			t.Error("Read changes its datas, or the room behind them")
		}
		for i, whole := range wholes {
			if !bytes.HasSuffix(whole, []byte("behind it")) || !bytes.HasPrefix(whole, want.datas[i]) {
				t.Error("Read changes a tile's bytes, or the room behind them")
			}
		}
	}
}

func TestBytesStayAsTheyAre(t *testing.T) { // P0.2
	data, whole := roomy(bytesOf(grown{0, someHashes(8)}, at(2, 0, 1, 4)), []byte("behind it")...)
	want := slices.Clone(whole)
	for _, k := range []int{0, 1} {
		for place := range int64(15) {
			tile.Inside(k, at(2, 0, 1, 4), data, place)
		}
	}
	if !bytes.Equal(whole, want) {
		t.Error("Inside changes its bytes, or the room behind them")
	}
	joined, all := roomy([]byte("\x00\x02ab\x00\x00\x00\x01c"), []byte("behind it")...)
	tile.Cut(joined, 3)
	tile.Cut(joined, 2)
	if string(all) != "\x00\x02ab\x00\x00\x00\x01cbehind it" {
		t.Errorf("Cut changes its bytes, or the room behind them: %q", all)
	}
	first, firstAll := roomy([]byte("ab"), []byte("behind it")...)
	records, recordsAll := roomy([][]byte{first, nil, []byte("c")}, []byte("behind"), []byte("them"))
	tile.Join(records)
	if string(firstAll) != "abbehind it" || !slices.EqualFunc(recordsAll, [][]byte{[]byte("ab"), nil, []byte("c"), []byte("behind"), []byte("them")}, bytes.Equal) {
		t.Errorf("Join changes its records, or the room behind them: %q, %q", firstAll, recordsAll)
	}
}

func TestTilesAreNewMemory(t *testing.T) { // P0.2
	for what, call := range map[string]func() ([]tile.Tile, api.Errno){
		"All":   func() ([]tile.Tile, api.Errno) { return tile.All(2, 21) },
		"Fresh": func() ([]tile.Tile, api.Errno) { return tile.Fresh(2, 5, 21) },
		"Plan":  func() ([]tile.Tile, api.Errno) { return tile.Plan(2, 21, []int64{0, 9}) },
	} {
		first, _ := call()
		second, _ := call()
		want := slices.Clone(second)
		spoil(first, tile.Tile{})
		third, _ := call()
		if !slices.Equal(second, want) || !slices.Equal(third, want) {
			t.Errorf("two answers of %s share memory", what)
		}
	}
}

func TestBytesAreNewMemory(t *testing.T) { // P0.2
	stored := trueStored(grown{0, someHashes(7)})
	want := bytesOf(grown{0, someHashes(7)}, at(2, 0, 1, 3))
	first, _ := tile.FromTree(stored, at(2, 0, 1, 3))
	second, _ := tile.FromTree(stored, at(2, 0, 1, 3))
	spoil(first, 9)
	if !slices.Equal(stored, trueStored(grown{0, someHashes(7)})) {
		t.Error("the bytes of FromTree share memory with the stored hashes")
	}
	spoil(stored, api.Hash{8})
	if !bytes.Equal(second, want) {
		t.Error("two answers of FromTree, or an answer and the stored hashes, share memory")
	}

	records := [][]byte{[]byte("ab"), []byte("c")}
	first, _ = tile.Join(records)
	second, _ = tile.Join(records)
	spoil(first, 9)
	spoil(records[0], 8)
	if string(second) != "\x00\x02ab\x00\x01c" || string(records[1]) != "c" {
		t.Error("two answers of Join, or an answer and the records, share memory")
	}
	one := [][]byte{[]byte("record")}
	first, _ = tile.Join(one)
	spoil(first, 9)
	if string(one[0]) != "record" {
		t.Error("the bytes of Join share memory with the record")
	}
}

func TestRecordsAreNewMemory(t *testing.T) { // P0.2: each record of Cut, its spare room too
	want := [][]byte{[]byte("ab"), nil, []byte("cde"), []byte("f")}
	for i := range want {
		data := trueJoin(want)
		records, _ := tile.Cut(data, len(want))
		again, _ := tile.Cut(data, len(want))
		spoil(records[i], 9)
		_ = append(again[i], "grown"...)
		if !bytes.Equal(data, trueJoin(want)) {
			t.Errorf("record %d of Cut shares memory with the bytes", i)
		}
		records[i] = want[i]
		spoil(data, 7)
		if !slices.EqualFunc(records, want, bytes.Equal) || !slices.EqualFunc(again, want, bytes.Equal) {
			t.Errorf("record %d of Cut shares memory with another, or hangs on the bytes", i)
		}
		spoil(records, []byte("other"))
		if !slices.EqualFunc(again, want, bytes.Equal) {
			t.Error("two answers of Cut share memory")
		}
	}
}

func TestHashesReadAreNewMemory(t *testing.T) { // P0.2
	a := usual()
	first, _ := a.read()
	second, _ := a.read()
	want, _ := trueRead(a)
	spoil(first, api.Hash{9})
	if third, e := a.read(); !slices.Equal(third, want) || e != api.OK {
		t.Error("what Read answers shares memory with what it was handed")
	}
	for i := range a.datas {
		spoil(a.datas[i], 8)
	}
	spoil(a.places, 0)
	if !slices.Equal(second, want) {
		t.Error("two answers of Read, or an answer and what was handed in, share memory")
	}
}

func TestNilAndEmptyAreOne(t *testing.T) { // P0.1
	for _, none := range [][]int64{nil, {}} {
		planIs(t, 2, 0, none, nil, api.OK)
		planIs(t, 2, 7, none, truePlan(2, 7, nil), api.OK)
		readsWith(t, "of size 0", asked{h: 2, root: trueHash(0), places: none}, api.OK)
		readsWith(t, "of size 0", asked{h: 2, root: trueHash(0), places: none, tiles: []tile.Tile{}, datas: [][]byte{}}, api.OK)
		readsWith(t, "of no tiles", asked{h: 2, size: 7, places: none, datas: [][]byte{}}, api.ErrMissing)
	}
	for _, none := range [][]byte{nil, {}} {
		if l, e := tile.Cut(none, 0); len(l) != 0 || e != api.OK {
			t.Errorf("Cut of none: %q, %d", l, int(e))
		}
		noCut(t, none, 1, api.ErrWidth)
		insideIs(t, 0, at(2, 0, 0, 1), none, 0, api.Hash{}, api.ErrWidth)
		joins(t, [][]byte{none, []byte("a"), none})
	}
	for _, none := range [][][]byte{nil, {}} {
		if b, e := tile.Join(none); len(b) != 0 || e != api.OK {
			t.Errorf("Join of none: %q, %d", b, int(e))
		}
	}
	for _, none := range [][]api.Hash{nil, {}} {
		fromTreeIs(t, none, at(2, 0, 0, 1), nil, api.ErrOutside)
	}
}

// answers: of one round of calls, in words.
func answers() string {
	var out []any
	note := func(values ...any) { out = append(out, values...) }
	stored := trueStored(grown{0, someHashes(21)})
	a := usual()
	for _, h := range []int{0, 1, 2, 8} {
		tiles, e := tile.Plan(h, 21, []int64{30, 0, 7, 0})
		note(tiles, e)
		tiles, e = tile.Fresh(h, 6, 21)
		note(tiles, e)
		u, e := tile.Of(h, 30)
		note(u, e)
		data, e := tile.FromTree(stored, u)
		note(data, e)
		hash, e := tile.Inside(3, u, data, 30)
		note(hash, e)
		path, e := tile.Path(u)
		note(path, e)
		u, e = tile.ParsePath(path)
		note(u, e)
		a.h = h
		hashes, e := a.read()
		note(hashes, e)
	}
	records, e := tile.Cut([]byte("\x00\x02ab\x00\x00"), 2)
	note(records, e)
	return fmt.Sprint(out...)
}

func TestSameCallsSameAnswers(t *testing.T) { // P0.2: again, and side by side
	want := answers()
	got := make([]string, 8)
	var all sync.WaitGroup
	for i := range got {
		all.Go(func() {
			for range 20 {
				got[i] = answers()
			}
		})
	}
	all.Wait()
	for i := range got {
		if got[i] != want {
			t.Errorf("round %d answers otherwise", i)
		}
	}
}
