package modver_test

import (
	"fmt"
	"math/rand"
	"slices"
	"strings"
	"sync"
	"testing"

	"ledger/api"
	"ledger/modver"
)

// roomy: the items with room behind them, which an append would fill, and all of it.
func roomy[T any](items []T, rest ...T) (given, all []T) {
	all = slices.Concat(items, rest)
	return all[:len(items)], all
}

// spoil: overwrites a list and the room behind it.
func spoil[T any](list []T, with T) {
	list = list[:cap(list)]
	for i := range list {
		list[i] = with
	}
}

func TestKeysStayAsTheyAre(t *testing.T) { // P11.7, P0.2: the room behind the list too
	keys := manyKeys(rand.New(rand.NewSource(1)), 50)
	for _, last := range []string{"b.com@v1.0.0", "x"} { // sorted, and refused at the end
		l := append(slices.Clone(keys), last)
		behind := manyKeys(rand.New(rand.NewSource(2)), 60)
		given, all := roomy(l, behind...)
		modver.Sort(given)
		if !slices.Equal(all, slices.Concat(l, behind)) {
			t.Error("Sort changes the list that it is handed, or the room behind it")
		}
	}
}

func TestSortedIsNewMemory(t *testing.T) { // P11.7, P0.2: of a list in order, of one key and of none too
	for _, n := range []int{0, 1, 2, 30} {
		keys := trueSort(manyKeys(rand.New(rand.NewSource(3)), n))
		want := slices.Clone(keys)
		first, _ := modver.Sort(keys)
		second, _ := modver.Sort(keys)
		spoil(first, "spoilt")
		_ = append(first, "grown")
		if !slices.Equal(keys, want) {
			t.Error("the answer of Sort shares memory with the list that it was handed")
		}
		spoil(keys, "spoilt")
		if !slices.Equal(second, want) {
			t.Error("two answers of Sort, or an answer and the list, share memory")
		}
	}
}

func TestHashesStayAsTheyAre(t *testing.T) { // P0.2
	h, g := [32]byte{1}, [32]byte{2}
	modver.Sum(h)
	modver.Record("a.com", "v1.0.0", h, g)
	if h != [32]byte{1} || g != [32]byte{2} {
		t.Error("a hash that is handed in is changed")
	}
}

func TestNilAndEmptyAreOne(t *testing.T) { // P0.1
	for _, none := range [][]string{nil, {}} {
		if l, e := modver.Sort(none); len(l) != 0 || e != api.OK {
			t.Errorf("Sort of none: %q, %d", l, int(e))
		}
	}
}

// answers: of one round of calls, in words.
func answers(texts []string) string {
	var out []any
	note := func(values ...any) { out = append(out, values...) }
	for i, s := range texts {
		other := texts[(i*7+3)%len(texts)]
		note(modver.CheckPath(s), modver.CheckVersion(s), modver.Compare(s, other))
		for _, call := range []func(string) (string, api.Errno){modver.EscapePath, modver.UnescapePath, modver.EscapeVersion, modver.UnescapeVersion} {
			got, e := call(s)
			note(got, e)
		}
		key, e := modver.Key(s, other)
		note(key, e)
		path, version, e := modver.ParseKey(s)
		note(path, version, e)
		list, e := modver.Sort([]string{"b.com@v1.0.0", "a.com@v1.0.0", s})
		note(list, e)
		h, e := modver.ParseSum(s)
		note(h, e)
		record, e := modver.Record(s, other, h, h)
		note(record, e)
		path, version, tree, mod, e := modver.ParseRecord(s)
		note(path, version, tree, mod, e)
	}
	return fmt.Sprint(out...)
}

func everyText() []string {
	l := slices.Concat(goodPaths(), badPaths(), goodVersions(), badVersions(), oddTexts())
	return append(l, "a.com@v1.0.0", "a.com/v2@v2.0.0", zeros, trueRecord("a.com", "v1.0.0", [32]byte{1}, [32]byte{2}))
}

func TestSameCallsSameAnswers(t *testing.T) { // P11.11, P0.2: again, in another order, and side by side
	texts := everyText()
	want := answers(texts)
	got := make([]string, 8)
	var all sync.WaitGroup
	for i := range got {
		all.Go(func() {
			backward := slices.Clone(texts)
			slices.Reverse(backward)
			answers(backward)
			got[i] = answers(texts)
		})
	}
	all.Wait()
	for i := range got {
		if got[i] != want {
			t.Errorf("round %d answers otherwise", i)
		}
	}
}

func TestNoPanicOfLongTexts(t *testing.T) { // P11.11, P0.1: texts of megabytes, none of which is anything
	for _, piece := range []string{"a", "/", ".", "!", "!a", "@", "\n", " ", "\xff", "0", "-", "é", "a b c\n", "v1.0.0", "~1", "h1:", "a.com/"} {
		long := strings.Repeat(piece, 1<<20/len(piece))
		for _, s := range []string{long, "a.com/" + long, "v1.0.0-" + long, "a.com@" + long, long + "@v1.0.0", "h1:" + long} {
			if e := modver.CheckPath(s); e != api.ErrModPath {
				t.Errorf("CheckPath(%.20q...) = %d", s, int(e))
			}
			if e := modver.CheckVersion(s); e != api.ErrVersion {
				t.Errorf("CheckVersion(%.20q...) = %d", s, int(e))
			}
			if c := modver.Compare(s, "v0.0.0"); c != -1 {
				t.Errorf("Compare(%.20q..., v0.0.0) = %d", s, c)
			}
			if got, e := modver.UnescapePath(s); got != "" || e != api.ErrEscape && e != api.ErrModPath {
				t.Errorf("UnescapePath(%.20q...) = %d", s, int(e))
			}
			if got, e := modver.UnescapeVersion(s); got != "" || e != api.ErrEscape && e != api.ErrVersion {
				t.Errorf("UnescapeVersion(%.20q...) = %d", s, int(e))
			}
			if got, e := modver.Key("a.com", s); got != "" || e != api.ErrVersion {
				t.Errorf("Key(a.com, %.20q...) = %d", s, int(e))
			}
			if got, e := modver.Sort([]string{s}); len(got) != 0 || e == api.OK {
				t.Errorf("Sort(%.20q...) = %d keys, %d", s, len(got), int(e))
			}
			noSum(t, s)
			if p, v, tree, mod, e := modver.ParseRecord(s); p != "" || v != "" || tree != [32]byte{} || mod != [32]byte{} || e != api.ErrRecord {
				t.Errorf("ParseRecord(%.20q...) = %d", s, int(e))
			}
		}
	}
}
