package cache_test

import (
	"bytes"
	"fmt"
	"math/rand"
	"slices"
	"strings"
	"sync"
	"testing"

	"ledger/api"
	"ledger/cache"
	"ledger/disk"
	"ledger/tile"
)

// roomy: the items with room behind them, which an append would fill, and all of it.
func roomy[T any](items []T, rest ...T) (given, all []T) {
	all = slices.Concat(items, rest)
	return all[:len(items)], all
}

// spoil: overwrites a list and the room behind it.
func spoil[T any](list []T, with T) {
	list = list[:cap(list)]
	for i := range list {
		list[i] = with
	}
}

func TestGivenBytesStay(t *testing.T) { // P16.10, P0.2: not changed, nor the room behind them, and not kept
	d, c := begun(t, 2)
	next, all := roomy([]byte("next"), []byte("rest")...)
	want(t, "SetHead", c.SetHead(nil, next), api.OK)
	old, oldAll := roomy([]byte("next"), []byte("more")...)
	want(t, "SetHead again", c.SetHead(old, next), api.OK)
	data, dataAll := roomy(bytesOf(at(0, 2), 0), []byte("rest")...)
	want(t, "Put", c.Put(at(0, 2), data), api.OK)
	want(t, "Put again", c.Put(at(0, 2), data), api.OK)
	if string(all) != "nextrest" || string(oldAll) != "nextmore" || string(dataAll) != string(bytesOf(at(0, 2), 0))+"rest" {
		t.Errorf("what was given is now %q, %q, %q", all, oldAll, dataAll)
	}
	spoil(all, '#')
	spoil(oldAll, '#')
	spoil(dataAll, '#')
	hasHead(t, "spoilt", c, "next")
	gives(t, c, at(0, 2), bytesOf(at(0, 2), 0), api.OK)
	want(t, "SetHead behind it", c.SetHead([]byte("next"), []byte("last")), api.OK)
	hasHead(t, "opened anew", opened(t, d, "a", 2), "last")
}

func TestAnswersAreNewMemory(t *testing.T) { // P16.2, P16.10, P0.2: two answers share none, nor with what is kept, nor with the disk
	d := loaded(t, file("head", []byte("head")), tileFile(at(0, 3), 0), tileFile(at(1, 4), 0))
	c := opened(t, d, "a", 3)
	files := told(d.Files())
	for round := range 2 {
		head, again := c.Head(), c.Head()
		list, other := c.List(), c.List()
		wide, _ := c.Tile(at(0, 3))
		narrow, _ := c.Tile(at(0, 1))
		same, _ := c.Tile(at(0, 3))
		spoil(head, '#')
		spoil(list, tile.Tile{})
		spoil(wide, '#')
		spoil(narrow, '#')
		if string(again) != "head" || len(other) != 2 || slices.Contains(other, tile.Tile{}) || !bytes.Equal(same, bytesOf(at(0, 3), 0)) {
			t.Errorf("round %d: two answers share memory: %q, %v, %q", round, again, other, same)
		}
		hasHead(t, "spoilt", c, "head")
		lists(t, "spoilt", c, at(1, 4), at(0, 3))
		gives(t, c, at(0, 3), bytesOf(at(0, 3), 0), api.OK)
	}
	if told(d.Files()) != files {
		t.Error("a spoilt answer is seen on the disk")
	}
}

func TestLaterCallsLeaveAnswers(t *testing.T) { // P16.10, P0.2
	d, c := begun(t, 2)
	c.SetHead(nil, []byte("first"))
	puts(t, c, tiles(0, 1)...)
	head, list := c.Head(), c.List()
	b, _ := c.Tile(at(0, 1))
	c.SetHead([]byte("first"), []byte("other"))
	d.Write("cache/a/tile/2/0/000.p/1", 0, []byte("other"))
	puts(t, c, tiles(2, 3)...)
	c.Drop(at(3, 1))
	if string(head) != "first" || !slices.Equal(list, tiles(0, 1)) || !bytes.Equal(b, bytesOf(at(0, 1), 0)) {
		t.Errorf("later calls are seen in answers: %q, %v, %q", head, list, b)
	}
}

func TestTilesAreReadEachTime(t *testing.T) { // P16.5: their bytes are not kept in memory, nor looked at
	d, c := begun(t, 2)
	puts(t, c, at(0, 2))
	for i := range 3 {
		d.Write("cache/a/tile/2/0/000.p/2", 0, bytesOf(at(5, 2), i))
		gives(t, c, at(0, 2), bytesOf(at(5, 2), i), api.OK)
	}
}

func TestNilIsEmpty(t *testing.T) { // P0.1
	for _, none := range [][]byte{nil, {}} {
		_, c := begun(t, 1)
		want(t, "SetHead(none, x)", c.SetHead(none, []byte("x")), api.OK)
		want(t, "SetHead(x, none)", c.SetHead([]byte("x"), none), api.OK)
		hasHead(t, "none", c, "")
		want(t, "SetHead(none, none)", c.SetHead(none, none), api.OK)
		want(t, "SetHead of the other none", c.SetHead(c.Head(), []byte("y")), api.OK)
		want(t, "Put", c.Put(at(0, 1), none), api.ErrWidth)
	}
}

// tell: all that a cache answers to a run of calls.
func tell(c *cache.Cache, seed int64, steps int) string {
	var out strings.Builder
	r := rand.New(rand.NewSource(seed))
	for range steps {
		x := anyTile(r)
		data := anyData(r, x)
		switch r.Intn(4) {
		case 0:
			fmt.Fprintln(&out, int(c.Put(x, data)))
		case 1:
			b, e := c.Tile(x)
			fmt.Fprintf(&out, "%q %d\n", b, int(e))
		case 2:
			fmt.Fprintln(&out, int(c.SetHead(c.Head(), data)), int(c.SetHead(nil, data)))
		case 3:
			fmt.Fprintln(&out, int(c.Drop(x)))
		}
		fmt.Fprintf(&out, "%q %v\n", c.Head(), c.List())
	}
	return out.String()
}

// story: a long run on a disk of its own, with faults and crashes.
func story(seed int64) string {
	var out strings.Builder
	r := rand.New(rand.NewSource(seed))
	d, _ := disk.New(4000)
	for range 12 {
		c, e := cache.Open(d, "a", r.Intn(5))
		fmt.Fprintln(&out, int(e))
		d.Fail(1+r.Intn(40), faults()[r.Intn(3)])
		if c != nil {
			out.WriteString(tell(c, r.Int63(), 25))
		}
		fmt.Fprintln(&out, d.Acts(), d.Pending(), told(d.Files()))
		d = d.Crash(anyChoices(r))
	}
	return out.String()
}

func TestSameCallsSameAnswers(t *testing.T) { // P0.2: whatever other caches are asked, at the same time too
	var first []string
	for seed := range 6 {
		first = append(first, story(int64(seed)))
	}
	if first[0] == first[1] || strings.Count(first[0], "\n") < 100 {
		t.Fatal("the stories tell nothing")
	}
	again := make([]string, 36)
	var wg sync.WaitGroup
	for i := range again {
		wg.Go(func() { again[i] = story(int64(i % 6)) })
	}
	wg.Wait()
	for i, s := range again {
		if s != first[i%6] {
			t.Errorf("story %d is told otherwise the second time", i%6)
		}
	}
}

func filesUnder(d *disk.Disk, start string) string {
	files := slices.DeleteFunc(d.Files(), func(f disk.File) bool { return !strings.HasPrefix(f.Name, start) })
	return told(files)
}

func TestCachesByTurns(t *testing.T) { // P16.10: of other names on one disk: each answers, and leaves files, as if it were alone
	nameList := []string{"a", "ab", "aa", "0", "head", "tile"}
	for seed := range 20 {
		shared := made(t, space)
		together, alone := make([]*cache.Cache, len(nameList)), make([]*cache.Cache, len(nameList))
		disks := make([]*disk.Disk, len(nameList))
		for round := range 12 {
			for i, name := range nameList {
				if disks[i] == nil {
					disks[i] = made(t, space)
				}
				if round%5 == 0 {
					together[i], alone[i] = opened(t, shared, name, 1+i), opened(t, disks[i], name, 1+i)
				}
				s := int64(1000*seed + 10*round + i)
				if got, want := tell(together[i], s, 10), tell(alone[i], s, 10); got != want {
					t.Fatalf("%s beside others tells\n%s; alone\n%s", name, got, want)
				}
			}
		}
		for i, name := range nameList {
			start := "cache/" + name + "/"
			if got, want := filesUnder(shared, start), filesUnder(disks[i], ""); got != want {
				t.Errorf("%s beside others leaves\n%s; alone\n%s", name, got, want)
			}
		}
	}
}
