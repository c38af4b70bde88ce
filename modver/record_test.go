package modver_test

import (
	"math/rand"
	"strings"
	"testing"

	"ledger/api"
	"ledger/modver"
)

// zeros: the sum of 32 bytes 0.
var zeros = "h1:" + strings.Repeat("A", 43) + "="

func parseSumIs(t *testing.T, s string) {
	t.Helper()
	want, e := trueParseSum(s)
	if h, f := modver.ParseSum(s); h != want || f != e {
		t.Errorf("ParseSum(%.80q) = %x, %d, want %x, %d", s, h, int(f), want, int(e))
	}
}

func noSum(t *testing.T, s string) {
	t.Helper()
	if h, e := modver.ParseSum(s); h != [32]byte{} || e != api.ErrSum {
		t.Errorf("ParseSum(%.80q) = %x, %d, want ErrSum", s, h, int(e))
	}
}

// someHash: 32 bytes by chance.
func someHash(chance *rand.Rand) (h [32]byte) {
	chance.Read(h[:])
	return h
}

func TestSums(t *testing.T) { // P11.8
	if s := modver.Sum([32]byte{}); s != zeros {
		t.Errorf("Sum of zeros: %q", s)
	}
	chance := rand.New(rand.NewSource(9))
	for i := range 300 {
		h := someHash(chance)
		if i < 256 {
			h = [32]byte{31: byte(i)}
			h[i%32] = byte(i)
		}
		s := modver.Sum(h)
		if s != trueSum(h) || len(s) != 47 {
			t.Errorf("Sum(%x) = %q", h, s)
		}
		if back, e := modver.ParseSum(s); back != h || e != api.OK {
			t.Errorf("ParseSum(%q) = %x, %d", s, back, int(e))
		}
	}
}

func TestNoSums(t *testing.T) { // P11.8
	for _, s := range []string{
		"", "h", "h1", "h1:", "h1:AAAA", "h2:" + zeros[3:], "H1:" + zeros[3:], "h1" + zeros[3:], "h1;" + zeros[3:], zeros[3:], zeros[:45] + "B=", zeros[:46], zeros[:45], zeros[:45] + "==", zeros[:44] + "A==", zeros[:46] + "A", zeros + "=", zeros + "\n", zeros + " ", " " + zeros, zeros + zeros, "h1:h1:" + zeros[3:], "h1:" + strings.Repeat("A", 44), "h1:" + strings.Repeat("A", 42) + "==", "h1:" + strings.Repeat("A", 40), "h1:" + strings.Repeat("A", 47) + "=", "h1:" + strings.Repeat("A", 1<<20), "h1:" + strings.Repeat("A", 1<<21), "h1:-" + zeros[4:], "h1:_" + zeros[4:], "h1:\n" + zeros[4:], "h1:" + zeros[3:10] + "\n" + zeros[10:],
	} {
		noSum(t, s)
	}
	for _, c := range "BCDEFGHIJKLMNOPQRSTUVWXYZabcdefghijklmnopqrstuvwxyz0123456789+/" {
		parseSumIs(t, zeros[:45]+string(c)+"=") // unused bits that must be 0
	}
	for _, s := range around(trueSum([32]byte{1, 2, 31: 255}), "A", "=", "-", "\n", " ", "\xff", "h1:") {
		parseSumIs(t, s)
	}
	for _, s := range oddTexts() {
		noSum(t, s)
		noSum(t, zeros+s+"x")
	}
}

func parseRecordIs(t *testing.T, s string) {
	t.Helper()
	want := trueParseRecord(s)
	var got read
	got.path, got.version, got.tree, got.mod, got.e = modver.ParseRecord(s)
	if got != want {
		t.Errorf("ParseRecord(%.120q) = %.200v, want %.200v", s, got, want)
	}
}

func noRecord(t *testing.T, s string, want api.Errno) {
	t.Helper()
	parseRecordIs(t, s)
	if p, v, tree, mod, e := modver.ParseRecord(s); p != "" || v != "" || tree != [32]byte{} || mod != [32]byte{} || e != want {
		t.Errorf("ParseRecord(%.120q) = %q, %q, %x, %x, %d, want %d", s, p, v, tree, mod, int(e), int(want))
	}
}

func TestRecordExample(t *testing.T) { // P11.9, P11.10
	want := "a.com v1.0.0 " + zeros + "\na.com v1.0.0/go.mod " + zeros + "\n"
	if s, e := modver.Record("a.com", "v1.0.0", [32]byte{}, [32]byte{}); s != want || e != api.OK {
		t.Errorf("Record: %q, %d", s, int(e))
	}
	if p, v, tree, mod, e := modver.ParseRecord(want); p != "a.com" || v != "v1.0.0" || tree != [32]byte{} || mod != [32]byte{} || e != api.OK {
		t.Errorf("ParseRecord: %q, %q, %x, %x, %d", p, v, tree, mod, int(e))
	}
}

func TestRecords(t *testing.T) { // P11.9, P11.10: tree in the first line, mod in the second; ParseRecord turns it round
	chance := rand.New(rand.NewSource(10))
	for _, path := range append(append(goodPaths(), badPaths()...), oddTexts()...) {
		for _, version := range append(goodVersions(), "", "v1", "v1.0.0/go.mod", "v1.0.0 ") {
			tree, mod := someHash(chance), someHash(chance)
			want, e := "", trueFit(path, version)
			if e == api.OK {
				want = trueRecord(path, version, tree, mod)
			}
			s, f := modver.Record(path, version, tree, mod)
			if s != want || f != e {
				t.Errorf("Record(%.80q, %.80q) = %.200q, %d, want %.200q, %d", path, version, s, int(f), want, int(e))
			}
			if e != api.OK {
				continue
			}
			if p, v, a, b, e := modver.ParseRecord(s); p != path || v != version || a != tree || b != mod || e != api.OK {
				t.Errorf("ParseRecord(%q) = %q, %q, %x, %x, %d", s, p, v, a, b, int(e))
			}
		}
	}
}

func TestRecordWrongInputs(t *testing.T) { // P11.9, P0.1
	for _, c := range []struct {
		path, version string
		e             api.Errno
	}{{"", "", api.ErrModPath}, {"A.com", "v1", api.ErrModPath}, {"A.com", "v1.0.0", api.ErrModPath}, {"a.com", "", api.ErrVersion}, {"a.com", "v1", api.ErrVersion}, {"a.com", "v2.0.0", api.ErrVersion}, {"a.com/v2", "v2.0.0+incompatible", api.ErrVersion}} {
		if s, e := modver.Record(c.path, c.version, [32]byte{1}, [32]byte{2}); s != "" || e != c.e {
			t.Errorf("Record(%q, %q) = %q, %d, want %d", c.path, c.version, s, int(e), int(c.e))
		}
	}
}

func TestLongestRecord(t *testing.T) { // P11.9: 873 bytes
	path, version := "a."+strings.Repeat("b", 253), "v1.0.0-"+strings.Repeat("a", 121)
	s, e := modver.Record(path, version, [32]byte{1}, [32]byte{2})
	if len(s) != 873 || e != api.OK {
		t.Errorf("Record: %d bytes, %d", len(s), int(e))
	}
	if p, v, tree, mod, e := modver.ParseRecord(s); p != path || v != version || tree != [32]byte{1} || mod != [32]byte{2} || e != api.OK {
		t.Errorf("ParseRecord: %d", int(e))
	}
}

func TestNoRecords(t *testing.T) { // P11.10: the form
	good := trueRecord("a.com", "v1.0.0", [32]byte{1}, [32]byte{2})
	end := strings.Index(good, "\n") + 1
	first, second := good[:end], good[end:]
	for i := range len(good) {
		if good[i] == ' ' {
			noRecord(t, good[:i]+" "+good[i:], api.ErrRecord)
			noRecord(t, good[:i]+good[i+1:], api.ErrRecord)
			noRecord(t, good[:i]+"\n"+good[i+1:], api.ErrRecord)
		}
		if good[i] == '\n' {
			noRecord(t, good[:i]+" "+good[i:], api.ErrRecord)
			noRecord(t, good[:i]+"\n"+good[i:], api.ErrRecord)
			noRecord(t, good[:i]+good[i+1:], api.ErrRecord)
		}
		noRecord(t, good[:i], api.ErrRecord)
		if i > 0 {
			noRecord(t, good[i:], api.ErrRecord)
		}
	}
	for _, s := range []string{
		"", "\n", "\n\n", "  \n  \n", "a b c\n", "a b c\nd e f\n", " a b\n a b/go.mod\n", second + first, first + first, second + second, first + second + first, good + "\n", "\n" + good, good + good, good + "x", " " + good, "\n\n" + good,
		first + "b" + second[1:], first + strings.Replace(second, "/go.mod", "", 1), first + strings.Replace(second, "/go.mod", "/go.mo", 1), first + strings.Replace(second, "/go.mod", "/go.mod/go.mod", 1), first + strings.Replace(second, "v1.0.0", "v1.0.1", 1), first + strings.Replace(second, "/go.mod", "/Go.mod", 1), strings.Replace(first, "v1.0.0", "v1.0.0/go.mod", 1) + second, first + strings.Replace(second, " v1.0.0/go.mod", "", 1), first + strings.Replace(second, "a.com ", "a.com x ", 1), strings.Replace(first, "a.com", "A.com", 1) + second,
	} {
		noRecord(t, s, api.ErrRecord)
	}
	for _, s := range around(good, " ", "\n", "\r", "\t", "a", "A", "/", "=", "\xff", "\x00", "\u00a0") {
		parseRecordIs(t, s)
	}
	for _, s := range eachOf(6, "a", " ", "\n", "a b c", "a b/go.mod c") {
		parseRecordIs(t, s)
	}
	for _, s := range oddTexts() {
		noRecord(t, s, api.ErrRecord)
		noRecord(t, good+s+"x", api.ErrRecord)
	}
}

func TestRecordFaults(t *testing.T) { // P11.10, P0.1: which of several errors is told
	form := func(path, version, sum, goModSum string) string {
		return path + " " + version + " " + sum + "\n" + path + " " + version + "/go.mod " + goModSum + "\n"
	}
	ones := trueSum([32]byte{1})
	for _, path := range []string{"a.com", "A.com", "a.com/v2", "gopkg.in", "\xff", "a.com\t", "@"} {
		for _, version := range []string{"v1.0.0", "v1", "v2.0.0", "v2.0.0+incompatible", "v1.0.0/go.mod", "x"} {
			for _, sum := range []string{ones, "h1:x", zeros + "\r", zeros[:45] + "B=", "x"} {
				for _, goModSum := range []string{zeros, "h1:x", zeros[3:], "x"} {
					s := form(path, version, sum, goModSum)
					parseRecordIs(t, s)
					noRecord(t, s[:len(s)-1], api.ErrRecord)
					noRecord(t, strings.Replace(s, " ", "  ", 1), api.ErrRecord)
					noRecord(t, s+strings.Repeat("x", 1024)+"\n", api.ErrRecord)
				}
			}
		}
	}
	noRecord(t, form("", "v1.0.0", ones, ones), api.ErrRecord) // a word has one byte or more
	noRecord(t, form("a.com", "", ones, ones), api.ErrRecord)
	noRecord(t, form("a.com", "v1.0.0", "", ones), api.ErrRecord)
	noRecord(t, form("a.com", "v1.0.0", ones, ""), api.ErrRecord)
	noRecord(t, form("A.com", "v1", "", ""), api.ErrRecord)
	noRecord(t, form("A.com", "v1.0.0", ones, ones), api.ErrModPath)
	noRecord(t, form("A.com", "v1", "h1:x", "h1:x"), api.ErrModPath)
	noRecord(t, form("a.com", "v1", ones, ones), api.ErrVersion)
	noRecord(t, form("a.com", "v2.0.0", ones, ones), api.ErrVersion)
	noRecord(t, form("a.com", "v1", "h1:x", "h1:x"), api.ErrVersion)
	noRecord(t, form("a.com", "v1.0.0", "h1:x", ones), api.ErrSum)
	noRecord(t, form("a.com", "v1.0.0", ones, "h1:x"), api.ErrSum)
	noRecord(t, strings.ReplaceAll(form("a.com", "v1.0.0", ones, ones), "\n", "\r\n"), api.ErrSum)
}

func TestRecordLengths(t *testing.T) { // P11.10: above 1024 bytes ErrRecord, whatever else
	rest := len(trueRecord("", "v1.0.0", [32]byte{}, [32]byte{}))
	for n := 254; n <= 600; n++ {
		path := "a." + strings.Repeat("b", n-2)
		s := trueRecord(path, "v1.0.0", [32]byte{1}, [32]byte{2})
		parseRecordIs(t, s)
		switch {
		case rest+2*n > 1024:
			noRecord(t, s, api.ErrRecord)
		case n > 255:
			noRecord(t, s, api.ErrModPath)
		}
	}
	for n := 900; n <= 1100; n++ { // odd lengths too
		s := "a.com v1.0.0 " + zeros + "\na.com v1.0.0/go.mod "
		s += strings.Repeat("x", n-len(s)-1) + "\n"
		want := api.ErrSum
		if n > 1024 {
			want = api.ErrRecord
		}
		noRecord(t, s, want)
	}
	noRecord(t, strings.Repeat("a b c\n", 1<<18), api.ErrRecord)
}
