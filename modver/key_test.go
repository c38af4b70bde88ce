package modver_test

import (
	"math/rand"
	"slices"
	"strings"
	"testing"

	"ledger/api"
	"ledger/modver"
)

// keyIs: Key and Record of a path and a version, and ParseKey of what is made of them, against the words.
func keyIs(t *testing.T, path, version string) {
	t.Helper()
	want, key := trueFit(path, version), ""
	if want == api.OK {
		key = path + "@" + version
	}
	if k, e := modver.Key(path, version); k != key || e != want {
		t.Errorf("Key(%.80q, %.80q) = %.80q, %d, want %.80q, %d", path, version, k, int(e), key, int(want))
	}
	parseKeyIs(t, path+"@"+version)
}

func parseKeyIs(t *testing.T, s string) {
	t.Helper()
	path, version, want := trueParseKey(s)
	if p, v, e := modver.ParseKey(s); p != path || v != version || e != want {
		t.Errorf("ParseKey(%.80q) = %.80q, %.80q, %d, want %.80q, %.80q, %d", s, p, v, int(e), path, version, int(want))
	}
}

func TestFits(t *testing.T) { // P11.5: the chapter's examples, and more
	for path, l := range map[string][]string{
		"example.com":                 {"v1.0.0", "v0.9.0", "v2.0.0+incompatible", "v1.0.0-a", "v0.0.0", "v10.0.0+incompatible", "v3.0.0-a+incompatible"},
		"example.com/v2":              {"v2.1.0", "v2.0.0-a"},
		"example.com/v10":             {"v10.0.0"},
		"gopkg.in/yaml.v2":            {"v2.4.0"},
		"gopkg.in/a.v0":               {"v0.1.0"},
		"gopkg.in/a.v1":               {"v1.1.0"},
		"gopkg.in/a.v3-unstable":      {"v3.0.0"},
		"a.com/x.v2":                  {"v0.1.0", "v1.0.0", "v3.0.0+incompatible"},
		"a.com/v2/b":                  {"v0.1.0", "v1.0.0", "v2.0.0+incompatible"},
		"v2.com":                      {"v1.0.0"},
		"a.com/v99999999999999999999": {"v99999999999999999999.0.0"},
	} {
		for _, version := range l {
			keyIs(t, path, version)
			if k, e := modver.Key(path, version); k != path+"@"+version || e != api.OK {
				t.Errorf("Key(%q, %q) = %q, %d", path, version, k, int(e))
			}
		}
	}
	for path, l := range map[string][]string{
		"example.com":                 {"v2.0.0", "v10.0.0", "v2.0.0-a", "v1.0.0+incompatible", "v99999999999999999999.0.0"},
		"example.com/v2":              {"v1.0.0", "v3.0.0", "v2.0.0+incompatible", "v0.0.0", "v20.0.0", "v22.0.0"},
		"example.com/v10":             {"v1.0.0", "v0.0.0", "v100.0.0"},
		"gopkg.in/yaml.v2":            {"v3.0.0", "v2.0.0+incompatible", "v1.0.0", "v0.0.0"},
		"gopkg.in/yaml.v1":            {"v0.0.0", "v2.0.0", "v2.0.0+incompatible"},
		"gopkg.in/yaml.v0":            {"v1.0.0"},
		"a.com/v2/b":                  {"v2.0.0"},
		"a.com/v99999999999999999999": {"v99999999999999999998.0.0", "v99999999999999999999.0.0+incompatible", "v1.0.0"},
	} {
		for _, version := range l {
			keyIs(t, path, version)
			if k, e := modver.Key(path, version); k != "" || e != api.ErrVersion {
				t.Errorf("Key(%q, %q) = %q, %d, want ErrVersion", path, version, k, int(e))
			}
		}
	}
}

func TestKeyExamples(t *testing.T) { // P11.5
	if k, e := modver.Key("example.com", "v1.0.0"); k != "example.com@v1.0.0" || e != api.OK {
		t.Errorf("Key: %q, %d", k, int(e))
	}
	if k, e := modver.Key("Example.com", "v2"); k != "" || e != api.ErrModPath {
		t.Errorf("Key of two that are none: %q, %d", k, int(e))
	}
	for s, want := range map[string]api.Errno{
		"example.com": api.ErrKey, "a.com@v1.0.0@": api.ErrKey, "@v1.0.0": api.ErrModPath, "a.com@": api.ErrVersion, "a.com/v2@v1.0.0": api.ErrVersion,
		"": api.ErrKey, "@": api.ErrModPath, "@@": api.ErrKey, "A@B@C": api.ErrKey, "@a.com@v1.0.0": api.ErrKey, "a.com@@v1.0.0": api.ErrKey, "A.com@x": api.ErrModPath, "a.com@v1.0.0\n": api.ErrVersion, " a.com@v1.0.0": api.ErrModPath, "a.com @v1.0.0": api.ErrModPath, "a.com@ v1.0.0": api.ErrVersion, "v1.0.0@a.com": api.ErrVersion, "v1@v1.0.0": api.ErrModPath,
	} {
		if p, v, e := modver.ParseKey(s); p != "" || v != "" || e != want {
			t.Errorf("ParseKey(%q) = %q, %q, %d, want %d", s, p, v, int(e), int(want))
		}
	}
}

func TestKeysOfAll(t *testing.T) { // P11.5, P0.1: each path with each version, whatever they are, and the order of errors
	paths := append(append(goodPaths(), badPaths()...), oddTexts()...)
	versions := append(append(goodVersions(), badVersions()...), oddTexts()...)
	for _, p := range paths {
		for _, v := range versions {
			keyIs(t, p, v)
		}
	}
}

func TestKeysNearby(t *testing.T) { // P11.5: ParseKey takes just what Key gives
	for _, k := range []string{"a.com@v1.0.0", "a.com/v2@v2.0.0", "gopkg.in/a.v2@v2.1.0-a", "a.com/B@v3.0.0+incompatible"} {
		for _, s := range around(k, "@", "a", "A", "v", "0", "1", "2", ".", "/", "-", "!", " ", "\n", "\xff") {
			parseKeyIs(t, s)
		}
	}
	for _, s := range eachOf(4, "@", "a.b", "/v2", "v2.0.0", "v1.0.0", "+incompatible") {
		parseKeyIs(t, s)
	}
	for _, n := range []int{240, 245, 249, 250, 251, 252, 260} {
		keyIs(t, "a.b/"+strings.Repeat("c", n), "v1.0.0")
		keyIs(t, "a.b", "v1.0.0-"+strings.Repeat("c", n-129))
	}
}

// trueSort: the keys in the words' order; of level ones by the version's bytes.
func trueSort(keys []string) []string {
	l := slices.Clone(keys)
	slices.SortStableFunc(l, func(a, b string) int {
		x, y := strings.Split(a, "@"), strings.Split(b, "@")
		if c := strings.Compare(x[0], y[0]); c != 0 {
			return c
		}
		if c := trueCompare(x[1], y[1]); c != 0 {
			return c
		}
		return strings.Compare(x[1], y[1])
	})
	return l
}

func sortIs(t *testing.T, keys, want []string) {
	t.Helper()
	given := slices.Clone(keys)
	got, e := modver.Sort(given)
	if !slices.Equal(got, want) || e != api.OK {
		t.Errorf("Sort(%.200q) = %.200q, %d, want %.200q", keys, got, int(e), want)
	}
	if !slices.Equal(given, keys) {
		t.Errorf("Sort changes the list %.200q to %.200q", keys, given)
	}
}

func noSort(t *testing.T, what string, keys []string, want api.Errno) {
	t.Helper()
	if got, e := modver.Sort(keys); len(got) != 0 || e != want {
		t.Errorf("Sort of %s: %d keys, %d, want %d", what, len(got), int(e), int(want))
	}
}

func TestSortExamples(t *testing.T) { // P11.7
	sortIs(t, []string{"b.com@v1.0.0", "a.com@v2.0.0+incompatible", "a.com@v0.10.0", "a.com@v0.9.0", "a.com/v2@v2.0.0"},
		[]string{"a.com@v0.9.0", "a.com@v0.10.0", "a.com@v2.0.0+incompatible", "a.com/v2@v2.0.0", "b.com@v1.0.0"})
	sortIs(t, []string{"a.com/B@v1.0.0", "a.com/a@v1.0.0", "a.com@v1.0.0", "a.com-b@v1.0.0", "a.com.b@v1.0.0", "a.com/b@v1.0.0", "a.co@v1.0.0", "a.com/~@v1.0.0"},
		[]string{"a.co@v1.0.0", "a.com@v1.0.0", "a.com-b@v1.0.0", "a.com.b@v1.0.0", "a.com/B@v1.0.0", "a.com/a@v1.0.0", "a.com/b@v1.0.0", "a.com/~@v1.0.0"})
	sortIs(t, []string{"a.com@v1.0.0", "a.com@v1.0.0-a", "a.com@v1.0.0", "a.com@v1.0.0-a"}, []string{"a.com@v1.0.0-a", "a.com@v1.0.0-a", "a.com@v1.0.0", "a.com@v1.0.0"})
	sortIs(t, nil, nil)
	sortIs(t, []string{"a.com@v1.0.0"}, []string{"a.com@v1.0.0"})
}

func TestSortErrors(t *testing.T) { // P11.7, P0.1: that of the first key which has one, at each place
	faults := []struct {
		key string
		e   api.Errno
	}{{"x", api.ErrKey}, {"A.com@v1.0.0", api.ErrModPath}, {"a.com@v2.0.0", api.ErrVersion}, {"a.com@v1@", api.ErrKey}, {"a.com@x", api.ErrVersion}, {"", api.ErrKey}}
	for _, n := range []int{1, 2, 5} {
		for i := range n {
			for _, first := range faults {
				for _, later := range faults {
					l := slices.Repeat([]string{"a.com@v1.0.0"}, n)
					l[n-1] = later.key
					l[i] = first.key
					noSort(t, first.key, l, first.e)
				}
			}
		}
	}
}

func TestSortLengths(t *testing.T) { // P11.7: 4096 keys, and ErrLong ahead of all else
	chance := rand.New(rand.NewSource(7))
	keys := manyKeys(chance, 4097)
	for _, n := range []int{0, 1, 2, 100, 4095, 4096} {
		sortIs(t, keys[:n], trueSort(keys[:n]))
	}
	noSort(t, "4097 keys", keys, api.ErrLong)
	noSort(t, "4096 that are none", make([]string, 4096), api.ErrKey)
	noSort(t, "4097 that are none", make([]string, 4097), api.ErrLong)
	noSort(t, "100000", make([]string, 100000), api.ErrLong)
	keys[4095] = "A.com@v1.0.0"
	noSort(t, "4096 of which the last is none", keys[:4096], api.ErrModPath)
}

// manyKeys: some of them more than once.
func manyKeys(chance *rand.Rand, n int) []string {
	paths, versions := goodPaths(), someVersions()
	var keys []string
	for len(keys) < n {
		key := paths[chance.Intn(len(paths))] + "@" + versions[chance.Intn(len(versions))]
		if _, _, e := trueParseKey(key); e == api.OK {
			keys = append(keys, key)
		}
	}
	return keys
}

func TestSortByChance(t *testing.T) { // P11.7: whatever the order in which they are handed in
	chance := rand.New(rand.NewSource(8))
	for range 300 {
		keys := manyKeys(chance, chance.Intn(40))
		want := trueSort(keys)
		sortIs(t, keys, want)
		sortIs(t, want, want)
		slices.Reverse(keys)
		sortIs(t, keys, want)
	}
}
