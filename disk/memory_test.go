package disk_test

import (
	"bytes"
	"fmt"
	"math/rand"
	"slices"
	"strings"
	"sync"
	"testing"

	"ledger/api"
	"ledger/disk"
)

// roomy: the items with room behind them, which an append would fill, and all of it.
func roomy[T any](items []T, rest ...T) (given, all []T) {
	all = slices.Concat(items, rest)
	return all[:len(items)], all
}

// spoil: overwrites a list and the room behind it.
func spoil[T any](list []T, with T) {
	list = list[:cap(list)]
	for i := range list {
		list[i] = with
	}
}

func TestWrittenDataIsNotKept(t *testing.T) { // P12.7, P0.2: neither for reading nor for a crash, and not changed
	d := made(t, 100)
	d.Create("a")
	given, all := roomy([]byte("abc"), []byte("rest")...)
	d.Write("a", 0, given)
	d.Write("a", 2, []byte("XYZ"))
	d.Write("a", 20, []byte("q"))
	if string(all) != "abcrest" {
		t.Errorf("Write leaves its data as %q", all)
	}
	spoil(all, '#')
	zeros := strings.Repeat(`\x00`, 15)
	holds(t, "behind Write", d, `a="abXYZ`+zeros+`q"`)
	outcomes(t, d, outcome{[]int{1, 3}, `a="abc"`}, outcome{[]int{1, 2, 1}, `a="abX"`})
}

func TestWrittenDataIsNotSynced(t *testing.T) { // P12.7, P0.2: data that is spoilt ahead of Sync
	d := made(t, 100)
	d.Create("a")
	data := []byte("abc")
	d.Write("a", 0, data)
	spoil(data, '#')
	d.Sync("a")
	d.SyncNames()
	outcomes(t, d, outcome{nil, `a="abc"`})
}

func TestLoadedFilesAreNotKept(t *testing.T) { // P12.7, P0.2: nor changed, by later writes either
	one, oneAll := roomy([]byte("abc"), []byte("rest")...)
	files, all := roomy([]disk.File{{Name: "a", Data: one}, {Name: "b", Data: oneAll[1:5]}}, file("z", "z"))
	d := loaded(t, 100, files...)
	d.Write("a", 1, []byte("XXXX"))
	d.Write("b", 0, []byte("YYYYYYY"))
	d.Sync("b")
	d.Rename("a", "c")
	if told(all) != `a="abc" b="bcre" z="z"` || string(oneAll) != "abcrest" {
		t.Errorf("Load, or what follows, leaves its files as %s, %q", told(all), oneAll)
	}
	spoil(oneAll, '#')
	spoil(all, file("q", "q"))
	holds(t, "behind it", d, `b="YYYYYYY" c="aXXXX"`)
	outcomes(t, d, outcome{nil, `a="abc" b="YYYYYYY"`})
}

func TestChoicesAreNotKept(t *testing.T) { // P12.7, P0.2: nor changed
	d := made(t, 100)
	d.Create("a")
	d.Write("a", 0, []byte("abc"))
	given, all := roomy([]int{-1, -2}, 7, 8, 9)
	x := d.Crash(given)
	if !slices.Equal(all, []int{-1, -2, 7, 8, 9}) {
		t.Errorf("Crash leaves its choices as %v", all)
	}
	spoil(all, 0)
	holds(t, "Crash", x, `a="ab"`)
	outcomes(t, x, outcome{nil, `a="ab"`})
}

func TestToldIsNewMemory(t *testing.T) { // P12.7, P0.2: of Read, List and Files, on a disk that was loaded, written and left by a crash
	fresh := func() *disk.Disk { return loaded(t, 100, file("a", "abc"), file("b", "def")) }
	grown := func() *disk.Disk {
		d := loaded(t, 100, file("a", "ab"), file("b", "def"))
		d.Write("a", 2, []byte("c"))
		return d
	}
	for i, d := range []*disk.Disk{fresh(), grown(), fresh().Crash(nil), grown().Crash([]int{0, 1})} {
		read, _ := d.Read("a")
		again, _ := d.Read("a")
		list, files := d.List(""), d.Files()
		other := d.Files()
		spoil(read, '#')
		spoil(list, "#")
		for _, f := range files {
			spoil(f.Data, '#')
		}
		spoil(files, disk.File{})
		if string(again) != "abc" || told(other) != `a="abc" b="def"` {
			t.Errorf("disk %d: two answers share memory: %q, %s", i, again, told(other))
		}
		holds(t, "what is kept", d, `a="abc" b="def"`)
		if !slices.Equal(d.List(""), []string{"a", "b"}) {
			t.Errorf("List = %q", d.List(""))
		}
		d.Write("a", 0, []byte("XYZ"))
		d.Sync("a")
		if string(again) != "abc" || told(other) != `a="abc" b="def"` {
			t.Errorf("disk %d: a later write is seen in an answer: %q, %s", i, again, told(other))
		}
	}
}

func TestFilesOfOneAnswerAreApart(t *testing.T) { // P12.7, P0.2
	data := []byte("abcdef")
	d := loaded(t, 100, disk.File{Name: "a", Data: data[:3]}, disk.File{Name: "b", Data: data[3:]}, disk.File{Name: "c", Data: data})
	files := d.Files()
	spoil(files[0].Data, '#')
	_ = append(files[1].Data, "####"...)
	if string(files[1].Data) != "def" || string(files[2].Data) != "abcdef" {
		t.Errorf("Files shares memory among its files: %s", told(files))
	}
	d.Write("a", 0, []byte("12345678"))
	holds(t, "the disk's own files", d, `a="12345678" b="def" c="abcdef"`)
}

func TestWhatLastsIsApart(t *testing.T) { // P12.7, P12.9, P0.2: a write to what reads now does not reach what lasts, nor the other way
	d := loaded(t, 100, file("a", "abc"))
	d.Write("a", 0, []byte("XYZ"))
	x := d.Crash(nil)
	holds(t, "what lasted", x, `a="abc"`)
	x.Write("a", 0, []byte("123"))
	y := x.Crash(nil)
	holds(t, "what lasted behind it", y, `a="abc"`)
	y.Write("a", 3, []byte("d"))
	y.Sync("a")
	y.Write("a", 0, []byte("----"))
	holds(t, "what was synced", y.Crash(nil), `a="abcd"`)
	holds(t, "the first again", d.Crash([]int{0, 3}), `a="XYZ"`)
	holds(t, "the second again", x.Crash([]int{0, 3}), `a="123"`)
}

func TestNilIsEmpty(t *testing.T) { // P0.1
	d, like := loaded(t, 10, file("a", "x")), loaded(t, 10, disk.File{Name: "a", Data: []byte("x")})
	want(t, "Write of nil", d.Write("a", 9, nil), like.Write("a", 9, []byte{}))
	holds(t, "Write of nil", d, told(like.Files()))
	holds(t, "Crash of nil", d.Crash(nil), told(like.Crash([]int{}).Files()))
	d, e := disk.Load(0, []disk.File{{Name: "a"}, {Name: "b", Data: []byte{}}})
	if e != api.OK || told(d.Files()) != `a="" b=""` {
		t.Errorf("Load of empty files = %d", int(e))
	}
	if d, e := disk.Load(0, []disk.File{}); e != api.OK || len(d.Files()) != 0 {
		t.Errorf("Load of an empty list = %d", int(e))
	}
}

// story: a long run of acts, faults and crashes, and all that was told on the way.
func story(seed int64) string {
	var s strings.Builder
	r := rand.New(rand.NewSource(seed))
	d, _ := disk.New(40)
	for i := range 120 {
		if i%20 == 19 {
			d = d.Crash(anyChoices(r))
		}
		if r.Intn(9) == 0 {
			fmt.Fprintln(&s, int(d.Fail(r.Intn(5), pick(r, api.ErrIO, api.ErrFull, api.ErrDead))))
		}
		e := play(d, anyDeed(r))
		fmt.Fprintln(&s, int(e), d.Acts(), d.Pending(), d.Used(), d.List("a"), told(d.Files()))
	}
	return s.String()
}

func TestSameCallsSameAnswers(t *testing.T) { // P0.2, P12.10: whatever other disks are asked, at the same time too
	var first []string
	for seed := range 8 {
		first = append(first, story(int64(seed)))
	}
	if first[0] == first[1] || strings.Count(first[0], "\n") < 120 {
		t.Fatal("the stories tell nothing")
	}
	again := make([]string, 64)
	var wg sync.WaitGroup
	for i := range again {
		wg.Go(func() { again[i] = story(int64(i % 8)) })
	}
	wg.Wait()
	for i, s := range again {
		if s != first[i%8] {
			t.Errorf("story %d is told otherwise the second time", i%8)
		}
	}
}

func TestDisksAreApart(t *testing.T) { // P0.2: two disks by turns, loaded from one list
	files := []disk.File{file("a", "abc")}
	x, y := loaded(t, 100, files...), loaded(t, 100, files...)
	x.Write("a", 0, []byte("X"))
	y.Create("b")
	x.Fail(1, api.ErrDead)
	want(t, "an act of the other", y.Write("b", 0, []byte("Y")), api.OK)
	want(t, "the named act", x.Remove("a"), api.ErrDead)
	holds(t, "the other", y, `a="abc" b="Y"`)
	if y.Acts() != 2 || y.Pending() != 2 || !bytes.Equal(files[0].Data, []byte("abc")) {
		t.Errorf("Acts %d, Pending %d", y.Acts(), y.Pending())
	}
}
