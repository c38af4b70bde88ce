package store_test

import (
	"fmt"
	"math/rand"
	"slices"
	"strings"
	"sync"
	"testing"

	"ledger/api"
	"ledger/disk"
	"ledger/store"
	"ledger/tile"
)

// roomy: the items with room behind them, which an append would fill, and all of it.
func roomy[T any](items []T, rest ...T) (given, all []T) {
	all = slices.Concat(items, rest)
	return all[:len(items)], all
}

// spoil: overwrites a list and the room behind it.
func spoil[T any](list []T, with T) {
	list = list[:cap(list)]
	for i := range list {
		list[i] = with
	}
}

func TestGivenListsStay(t *testing.T) { // P13.11, P0.2: not changed, nor the room behind them, and not kept
	c := config(1)
	d, s := begun(t, c)
	given, all := roomy(recs(0, 3), rec(7), rec(8))
	before := slices.Clone(all)
	s.Append(given)
	d.Fail(4, api.ErrIO)
	shut, _ := store.Open(d, c)
	shut.Append(all)
	if !slices.Equal(all, before) || !shut.Shut() {
		t.Error("Append changes its list")
	}
	spoil(all, "#")
	isLog(t, "behind it", s, c, recs(0, 3))
	isLog(t, "behind one that failed", shut, c, recs(0, 3))
	places, allPlaces := roomy([]int64{2, 0}, 9, 9)
	h, _ := s.Hashes(places)
	if !slices.Equal(allPlaces, []int64{2, 0, 9, 9}) {
		t.Error("Hashes changes its list")
	}
	spoil(allPlaces, 1)
	if again, _ := s.Hashes([]int64{2, 0}); !slices.Equal(h, again) {
		t.Error("Hashes answers otherwise the second time")
	}
}

func TestAnswersAreNewMemory(t *testing.T) { // P13.7, P13.11, P0.2
	c := config(1)
	d, s := begun(t, c)
	ids, _ := s.Append(recs(0, 5))
	other, _ := s.Append(recs(0, 5))
	head, again := s.Head(), s.Head()
	tiles := []tile.Tile{{H: 1, W: 2}, {H: 1, W: 1}, {H: 1, N: 2, W: 1}, {H: 1, L: 1, W: 2}, {H: 1, W: 2, Data: true}, {H: 1, W: 1, Data: true}}
	var first, second [][]byte
	for _, x := range tiles {
		a, _ := s.Tile(x)
		b, _ := s.Tile(x)
		first, second = append(first, a), append(second, slices.Clone(b))
	}
	h, _ := s.Hashes([]int64{0, 1, 2})
	files := told(d.Files())
	spoil(ids, -1)
	spoil(head, '#')
	spoil(h, api.Hash{})
	for _, b := range first {
		spoil(b, '#')
	}
	if !slices.Equal(other, []int64{0, 1, 2, 3, 4}) || string(again) != string(signedHead(c, recs(0, 5))) {
		t.Error("two answers share memory")
	}
	for i, x := range tiles {
		if b, e := s.Tile(x); string(b) != string(second[i]) || e != api.OK {
			t.Errorf("Tile(%+v) = %x, %d behind a spoilt answer", x, b, int(e))
		}
	}
	isLog(t, "behind spoilt answers", s, c, recs(0, 5))
	if told(d.Files()) != files {
		t.Error("a spoilt answer is seen on the disk")
	}
	s.Append([]string{rec(5)})
	if string(again) != string(signedHead(c, recs(0, 5))) {
		t.Error("an append is seen in an earlier answer")
	}
}

func TestHeadBehindCreateAndOpen(t *testing.T) { // P13.7, P0.2: what is spoilt of Head's answer is not in the store
	c := config(1)
	d := made(t, room)
	for i, begin := range []func(*disk.Disk, store.Config) (*store.Store, api.Errno){store.Create, store.Open} {
		s, e := begin(d, c)
		if e != api.OK {
			t.Fatal(e)
		}
		spoil(s.Head(), '#')
		isLog(t, fmt.Sprint(i), s, c, nil)
	}
}

// story: a long run of appends, faults, crashes and openings, and all that was told on the way.
func story(seed int64) string {
	var out strings.Builder
	r := rand.New(rand.NewSource(seed))
	c := config(1 + r.Intn(3))
	d, _ := disk.New(room)
	s, _ := store.Create(d, c)
	for i := range 30 {
		if i%6 == 5 || s.Shut() {
			d = d.Crash([]int{r.Intn(9), r.Intn(99)})
			var e api.Errno
			s, e = store.Open(d, c)
			fmt.Fprintln(&out, int(e))
		}
		if r.Intn(4) == 0 {
			d.Fail(1+r.Intn(30), api.ErrIO)
		}
		n := r.Intn(40)
		ids, e := s.Append(recs(n, n+r.Intn(4)))
		b, f := s.Tile(tile.Tile{H: c.Height, W: 2, Data: true})
		fmt.Fprintln(&out, ids, int(e), s.Size(), s.Shut(), string(s.Head()), string(b), int(f), d.Acts(), d.Pending(), told(d.Files()))
	}
	return out.String()
}

func TestSameCallsSameAnswers(t *testing.T) { // P13.11, P0.2: whatever other stores are asked, at the same time too
	var first []string
	for seed := range 6 {
		first = append(first, story(int64(seed)))
	}
	if first[0] == first[1] || strings.Count(first[0], "\n") < 30 {
		t.Fatal("the stories tell nothing")
	}
	again := make([]string, 36)
	var wg sync.WaitGroup
	for i := range again {
		wg.Go(func() { again[i] = story(int64(i % 6)) })
	}
	wg.Wait()
	for i, s := range again {
		if s != first[i%6] {
			t.Errorf("story %d is told otherwise the second time", i%6)
		}
	}
}

func TestStoresByTurns(t *testing.T) { // P13.11: on disks of their own, of one config
	c := config(1)
	d, a := begun(t, c)
	_, b := begun(t, c)
	for n := range 8 {
		a.Append([]string{rec(n)})
		b.Append([]string{rec(n, 1), rec(100 + n)})
	}
	d.Fail(3, api.ErrIO)
	if _, e := b.Append([]string{rec(50)}); e != api.OK || a.Shut() {
		t.Errorf("a fault of another disk: %d", int(e))
	}
	a.Append([]string{rec(60)})
	if !a.Shut() || b.Shut() {
		t.Errorf("shut: %v, %v", a.Shut(), b.Shut())
	}
	isLog(t, "the first", a, c, recs(0, 8))
	if b.Size() != 17 {
		t.Errorf("the other has %d records", b.Size())
	}
}

func TestTwoOnOneDisk(t *testing.T) { // P13.11: each goes on from what it knows, and Open says what the disk has
	c := config(1)
	d, a := begun(t, c, recs(0, 2)...)
	b, _ := store.Open(d, c)
	if ids, e := a.Append(recs(2, 3)); !slices.Equal(ids, []int64{2}) || e != api.OK {
		t.Errorf("the first: %v, %d", ids, int(e))
	}
	isLog(t, "the second, which does not know of it", b, c, recs(0, 2))
	acts := d.Acts()
	if ids, e := b.Append([]string{rec(5), rec(2)}); !slices.Equal(ids, []int64{2, 3}) || e != api.OK {
		t.Errorf("the second: %v, %d", ids, int(e))
	}
	mine := []string{rec(0), rec(1), rec(5), rec(2)}
	if n := len(commitActs(c, recs(0, 2), mine)) + len(tidyActs(c, recs(0, 2), mine)); d.Acts()-acts != n {
		t.Errorf("%d acts; want %d", d.Acts()-acts, n)
	}
	isLog(t, "the second", b, c, mine)
	isLog(t, "the first, which does not know of it", a, c, recs(0, 3))
	s, e := store.Open(d, c)
	if e != api.OK {
		t.Fatal(e)
	}
	isLog(t, "opened", s, c, mine)
}
