package modver_test

import (
	"math/rand"
	"strings"
	"testing"

	"ledger/api"
	"ledger/modver"
)

// goodPaths, badPaths: the chapter's examples, and the edges of its rules.
func goodPaths() []string {
	return []string{
		"example.com", "a.b/c", "example.com/v2", "example.com/A_b~c/d-e", "gopkg.in/yaml.v2", "gopkg.in/a/b.v0", "gopkg.in/x.v3-unstable", "a.com/com", "a.com/v", "a.com/vx", "a.com/x.v1", "v2.com", "a.com/com1x", "0.1",
		"a.com/~", "a.com/x~", "a.com/x~a1", "a.com/x.y~1",
		"a.b", "a..b", "a-.b", "a.-b", "a.com/-", "a.com/_", "a.com/-a", "a.com/v10", "a.com/v20", "a.com/v11", "a.com/v1/b", "a.com/v02/b", "a.com/v2.0/b", "a.com/v2x", "a.com/v1.x", "a.com/V1", "a.com/v-1", "a.com/v1-", "a.com/v1_", "a.com/v1~", "a.com/xv1", "v1.2", "v1.0", "v.1", "a.com/v99999999999999999999999999",
		"gopkg.in/yaml.v1", "gopkg.in/yaml.v10", "gopkg.in/yaml.v0-unstable", "gopkg.in/a.v1.v2", "gopkg.in/a.v01.v2", "gopkg.in/a-unstable.v2", "gopkg.in/a/v1/b.v3", "gopkg.in/A.v2", "gopkg.in/a~1x.v2", "gopkg.in/a.v18446744073709551616", "gopkg.inn/a", "gopkg.in.a/b", "agopkg.in/a", "a.com/gopkg.in/b", "gopkg.io/v2", "a.com/gopkg.in",
		"a.com/conx", "a.com/xcon", "a.com/com0", "a.com/com10", "a.com/lpt0", "a.com/lpt", "a.com/x.con", "a.com/con-", "a.com/con_.x", "x.con", "a.com/x~1y", "a.com/x~1~", "a.com/~a", "a.com/1~", "a.com/x.y~1.z",
	}
}

func badPaths() []string {
	return []string{
		"", "example", "Example.com", "/a.com", "a.com/", "a.com//b", ".a.com", "a.com/.b", "a.com/b.", "-a.com", "a.com/a b", "a.com/a@b", "a_b.com", "a.com/v1", "a.com/v0", "a.com/v02", "a.com/v2.0", "a.com/Con", "a.com/aux.txt", "a.com/x~1", "a.com/x~1.go", "con.com", "gopkg.in", "gopkg.in/yaml", "gopkg.in/yaml.v02", "gopkg.in/v2", "gopkg.in/yaml.v2-stable",
		"a.com.", "a/b.com", "a~b.com", "exaMple.com", "a.coM", ".", "..", "/", "a.com/.", "a.com/..", "a.com/./b", "a.com/b./c", "-.a", "a.com/v00", "a.com/v01", "a.com/v1.0", "a.com/v2..0", "a.com/b/v0", "a.com/v3/v1", "a.com/v1.2.3", "a.com/v0123456789",
		"gopkg.in/", "gopkg.in/yaml.v", "gopkg.in/yaml.v-unstable", "gopkg.in/yaml.v00", "gopkg.in/yaml.v01-unstable", "gopkg.in/yaml.v2-unstable-unstable", "gopkg.in/yaml.v2unstable", "gopkg.in/yaml.v2-Unstable", "gopkg.in/yaml.V2", "gopkg.in/yamlv2", "gopkg.in/yaml.2", "gopkg.in/yaml.vv2", "gopkg.in/yaml.v2/b", "gopkg.in/yaml.v2x", "gopkg.in/.v2", "gopkg.in/yaml.v2.", "gopkg.in/-unstable", "gopkg.in/v1", "gopkg.in/yaml.v2.0", "gopkg.in/a~1.v2", "gopkg.in/con.v2",
		"a.com/~1", "a.com/~0", "a.com/~~1", "a.com/x~12/b", "a.com/X~01.b.c", "a.com/cON/b", "a.com/LPT9.x", "prn.x/b", "aux.com", "a.com/con.", "a.com/com1..x",
		"a.com\n", "\na.com", "a.com/b\n", "a.com/\x00", "a.com/\x7f", "a.com/é", "a.com/\xff", "a.com/\xc3", "ä.com", "a.com/\u212a", "a.com/٣", "a.com\\b", "a.com/!b", "a.com/b+c", "a.com:80/b", "a.com/b,c", "a.com/b=c", "a.com/(b)", "a.com/b*",
	}
}

// pathIs: CheckPath and EscapePath, against the words.
func pathIs(t *testing.T, p string) {
	t.Helper()
	want, form := api.ErrModPath, ""
	if truePath(p) {
		want, form = api.OK, trueEscape(p)
	}
	if e := modver.CheckPath(p); e != want {
		t.Errorf("CheckPath(%.80q) = %d, want %d", p, int(e), int(want))
	}
	if s, e := modver.EscapePath(p); s != form || e != want {
		t.Errorf("EscapePath(%.80q) = %.80q, %d, want %.80q, %d", p, s, int(e), form, int(want))
	}
}

func TestPathExamples(t *testing.T) { // P11.1
	for _, p := range goodPaths() {
		if e := modver.CheckPath(p); e != api.OK {
			t.Errorf("CheckPath(%q) = %d, want OK", p, int(e))
		}
		pathIs(t, p)
	}
	for _, p := range badPaths() {
		if e := modver.CheckPath(p); e != api.ErrModPath {
			t.Errorf("CheckPath(%q) = %d, want ErrModPath", p, int(e))
		}
		pathIs(t, p)
	}
}

func TestEachRuleAlone(t *testing.T) { // P11.1: for each rule a path that breaks it and no other, so that none is asked in vain
	for rule, l := range [][]string{
		{"a." + strings.Repeat("b", 254), "a.com/" + strings.Repeat("b/", 125) + "c"},
		{"a.com/+", "a.com/é", "a.com/\xff"},
		{"a.com/", "a.com//b"},
		{"a.com/.b", "a.com/b./c", ".com", "a."},
		{"a", "-a.com", "A.com", "a_.com", "a~.com", "a/b.c"},
		{"a.com/con", "a.com/~1"},
		{"a.com/v1", "a.com/v2.3", "a.com/v03"},
		{"gopkg.in", "gopkg.in/a", "gopkg.in/a.v01"},
	} {
		want := [8]bool{true, true, true, true, true, true, true, true}
		want[rule] = false
		for _, p := range l {
			if trueRules(p) != want {
				t.Errorf("%.80q breaks other rules than rule %d alone", p, rule+1)
			}
			pathIs(t, p)
		}
	}
}

func TestDevices(t *testing.T) { // P11.1: each name, whole and with endings, in small and capital letters
	names := []string{"con", "prn", "aux", "nul"}
	for _, d := range "0123456789" {
		names = append(names, "com"+string(d), "lpt"+string(d), "con"+string(d), "aux"+string(d))
	}
	for _, name := range names {
		for letters := range 8 {
			form := []byte(name)
			for i := range 3 {
				if letters>>i&1 == 1 {
					form[i] -= 'a' - 'A'
				}
			}
			s := string(form)
			for _, p := range []string{s, s + ".x", s + ".x.y", s + "..x", "x." + s, s + "-", "-" + s, s + "1", s[:2], s + "_.x", s + "~"} {
				pathIs(t, "a.com/"+p)
				pathIs(t, "a.com/"+p+"/b")
				pathIs(t, "a.com/b/"+p)
			}
			pathIs(t, s+".com")
			pathIs(t, s)
		}
	}
}

func TestEachByteOfAPath(t *testing.T) { // P11.1: in the first element, in others, at their ends and inside
	for c := range 256 {
		for _, form := range []string{"?.com", "a?.com", "a.c?", "?a.com/b", "a.com/?", "a.com/?b", "a.com/b?", "a.com/b?c", "a.com/b?c/d", "a.com/?/d", "a.com?b", "a.com/v?", "a.com/v2?", "a.com/?2", "gopkg.in/a.v?", "gopkg.in/a.v?1", "gopkg.in/a?v2", "gopkg.in/a.?2", "gopkg.in?a.v2", "a.com/x~?", "a.com/x?1", "a.com/com?"} {
			pathIs(t, strings.Replace(form, "?", string([]byte{byte(c)}), 1))
		}
	}
	for _, r := range []rune{0x80, 0xc0, 0x131, 0x17f, 0x212a, 0x2014, 0xff0e, 0xff0f, 0xff11, 0xfffd, 0x10ffff} {
		for _, form := range []string{"?.com", "a.com/?", "a.com/v?", "gopkg.in/a.v?"} {
			pathIs(t, strings.Replace(form, "?", string(r), 1))
		}
	}
}

func TestPathLengths(t *testing.T) { // P11.1, P11.11
	for _, n := range []int{1, 2, 3, 100, 253, 254, 255, 256, 257, 511, 512, 1000, 1 << 20} {
		pathIs(t, ("a." + strings.Repeat("b", n))[:n])
		pathIs(t, ("a.b/" + strings.Repeat("C/", n))[:n])
		pathIs(t, ("a.b/v" + strings.Repeat("2", n))[:n])
		if n > 4 {
			pathIs(t, ("a.b/" + strings.Repeat("c/", n))[:n-1]+"d")
			pathIs(t, ("gopkg.in/a.v" + strings.Repeat("2", n))[:n])
		}
	}
	for n := range 130 {
		pathIs(t, "a.com"+strings.Repeat("/b", n))
	}
}

func TestSmallPaths(t *testing.T) { // P11.1: all texts of few pieces
	for _, s := range eachOf(5, "a", "A", ".", "/", "-", "_", "~", "1") {
		pathIs(t, s)
	}
	for _, s := range eachOf(4, "v", "V", "0", "1", "2", ".", "/", "-", "~", "x") {
		pathIs(t, "a.com/"+s)
		pathIs(t, "a.com/v"+s)
	}
	for _, s := range eachOf(5, ".v", "v", "0", "1", "23", ".", "/", "-unstable", "~", "x") {
		pathIs(t, "gopkg.in/a"+s)
	}
	for _, s := range eachOf(4, ".v", "v", "2", ".", "/", "-unstable", "gopkg.in", "x") {
		pathIs(t, "gopkg.in"+s)
		pathIs(t, s)
	}
	for _, s := range eachOf(4, "con", "Com1", "lpt", "9", "~", ".", "/", "x") {
		pathIs(t, "a.com/"+s)
		pathIs(t, s+".com")
	}
}

func TestPathsNearby(t *testing.T) { // P11.1: each example, a little changed
	for _, p := range append(goodPaths(), badPaths()...) {
		for _, s := range around(p, "a", "A", "v", "0", "1", "2", ".", "/", "-", "_", "~", "!", "@", " ", "\n", "é", "\xff") {
			pathIs(t, s)
		}
	}
}

func TestPathsByChance(t *testing.T) { // P11.1
	chance := rand.New(rand.NewSource(11))
	pieces := []string{"a", "b.c", "A", "Z", "v", "v2", "v1", ".v3", "0", "7", ".", ".", "/", "/", "-", "_", "~", "~1", "con", "COM1", "aux.", "gopkg.in/", "-unstable", "é", "!"}
	for range 200000 {
		p := []string{"", "a.com/", "gopkg.in/", "gopkg.in/a.v"}[chance.Intn(4)]
		for range chance.Intn(7) {
			p += pieces[chance.Intn(len(pieces))]
		}
		pathIs(t, p)
	}
}
