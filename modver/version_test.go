package modver_test

import (
	"math/rand"
	"slices"
	"strings"
	"testing"

	"ledger/api"
	"ledger/modver"
)

// goodVersions, badVersions: the chapter's examples, and the edges of its rules.
func goodVersions() []string {
	return []string{
		"v0.0.0", "v1.2.3", "v1.2.3-pre", "v1.2.3-0.a.-", "v1.2.3--", "v2.0.0+incompatible", "v2.0.0-rc.1+incompatible", "v10.0.0-01a", "v1.2.3-99999999999999999999",
		"v1.0.0", "v0.9.0", "v0.1.0", "v2.1.0", "v2.0.0-a", "v2.4.0", "v3.0.0", "v2.0.0", "v10.10.10", "v1.0.0-0", "v1.0.0-A", "v1.0.0-Z.z", "v1.0.0-0a", "v1.0.0-00a", "v1.0.0-0-", "v1.0.0-00-", "v1.0.0--1", "v1.0.0--01", "v1.0.0-----", "v1.0.0-a.b.c.d.0", "v1.0.0-a-b", "v1.0.0-incompatible", "v3.0.0-incompatible+incompatible", "v10.0.0+incompatible", "v20.0.0+incompatible", "v11.0.0-0+incompatible",
		"v99999999999999999999.0.0", "v0.99999999999999999999.18446744073709551616", "v99999999999999999999.0.0+incompatible", "v1.2.3-v1.2.3", "v0.0.0-20210101000000-abcdefabcdef",
	}
}

func badVersions() []string {
	return []string{
		"", "1.2.3", "v1.2", "v1.2.3.4", "v01.2.3", "v1.2.3-", "v1.2.3-a..b", "v1.2.3-01", "v1.2.3+incompatible", "v0.2.3+incompatible", "v2.0.0+meta", "v2.0.0+incompatible+incompatible", "v1.2.3-a_b", "V1.2.3", "v1.2.3\n",
		"v", "v1", "v2", "v.", "v..", "v...", "v1..3", "v.2.3", "v1.2.", "v1.02.3", "v1.2.03", "v00.0.0", "v1.2.00", "v-1.2.3", "v1.-2.3", "v+1.2.3", "v1.2.3-.a", "v1.2.3-a.", "v1.2.3-.", "v1.2.3-a.01", "v1.2.3-00", "v1.2.3-a.00.b", "v1.2.3-+incompatible", "v2.2.3-+incompatible", "v2.2.3-a.+incompatible", "v2.2.3.+incompatible", "v2.0.0+incompatible-a", "v2.0.0-a+b", "v2.0.0-a+b+incompatible", "v2.0.0+", "v2.0.0-a+", "v2.0.0+Incompatible", "v2.0.0+incompatible.", "v2.0.0+incompatibl", "v2.0.0 +incompatible", "v1.0.0-a+incompatible", "v0.0.0-a+incompatible", "v00.0.0+incompatible", "v01.0.0+incompatible", "+incompatible", "v+incompatible", "v2+incompatible", "v2.0+incompatible", "-", "v-", "v1.2-3", "v1-2.3", "v1.2.-3",
		" v1.2.3", "v1.2.3 ", "v 1.2.3", "vv1.2.3", "v1.2.3a", "v1a.2.3", "va.b.c", "v1.2.3-é", "v1.2.3-\xff", "v1.2.\u0663", "v1,2,3", "v1.2.3/go.mod", "v1.2.3-a/b", "v1.2.3-!a", "v1.2.3@", "latest", "x",
	}
}

// versionIs: CheckVersion and EscapeVersion, against the words.
func versionIs(t *testing.T, v string) {
	t.Helper()
	want, form := api.ErrVersion, ""
	if trueVersion(v) {
		want, form = api.OK, trueEscape(v)
	}
	if e := modver.CheckVersion(v); e != want {
		t.Errorf("CheckVersion(%.80q) = %d, want %d", v, int(e), int(want))
	}
	if s, e := modver.EscapeVersion(v); s != form || e != want {
		t.Errorf("EscapeVersion(%.80q) = %.80q, %d, want %.80q, %d", v, s, int(e), form, int(want))
	}
}

func TestVersionExamples(t *testing.T) { // P11.2
	for _, v := range goodVersions() {
		if e := modver.CheckVersion(v); e != api.OK {
			t.Errorf("CheckVersion(%q) = %d, want OK", v, int(e))
		}
		versionIs(t, v)
	}
	for _, v := range badVersions() {
		if e := modver.CheckVersion(v); e != api.ErrVersion {
			t.Errorf("CheckVersion(%q) = %d, want ErrVersion", v, int(e))
		}
		versionIs(t, v)
	}
}

func TestEachByteOfAVersion(t *testing.T) { // P11.2
	for c := range 256 {
		for _, form := range []string{"?1.2.3", "v?.2.3", "v1?2.3", "v1.?.3", "v1.2?3", "v1.2.?", "v1.2.3?", "v1.2.3?a", "v1.2.3-?", "v1.2.3-a?", "v1.2.3-?a", "v1.2.3-a?b", "v1.2.3-0?", "v1.2.3-?0", "v2.0.0?incompatible", "v2.0.0-a?incompatible", "v?.0.0+incompatible", "v1?.0.0+incompatible", "v2.0.0+incompatible?", "v2.0.0+?ncompatible"} {
			versionIs(t, strings.Replace(form, "?", string([]byte{byte(c)}), 1))
		}
	}
}

func TestVersionLengths(t *testing.T) { // P11.2, P11.11
	for _, n := range []int{6, 7, 8, 100, 126, 127, 128, 129, 130, 256, 1000, 1 << 20} {
		for _, start := range []string{"v1.0.0-", "v1.0.", "v"} {
			for _, fill := range []string{"a", "1", "0", "-", "a.", ".a", "Z"} {
				versionIs(t, (start + strings.Repeat(fill, n))[:n])
			}
		}
		if n > 20 {
			versionIs(t, ("v2.0.0-" + strings.Repeat("a", n))[:n-13]+"+incompatible")
			versionIs(t, ("v" + strings.Repeat("2", n))[:n-17]+".0.0+incompatible")
			versionIs(t, ("v" + strings.Repeat("2", n))[:n-4]+".0.0")
			versionIs(t, ("v0." + strings.Repeat("2", n))[:n-2]+".0")
		}
	}
}

func TestSmallVersions(t *testing.T) { // P11.2: all texts of few pieces
	for _, s := range eachOf(6, "v", "0", "1", "20", ".", "-", "+incompatible") {
		versionIs(t, s)
		versionIs(t, "v"+s)
	}
	for _, s := range eachOf(5, "0", "1", "a", "A", ".", "-", "+", "+incompatible", "_") {
		versionIs(t, "v2.0.0"+s)
		versionIs(t, "v1.2.3"+s)
	}
}

func TestVersionsNearby(t *testing.T) { // P11.2: each example, a little changed
	for _, v := range append(goodVersions(), badVersions()...) {
		for _, s := range around(v, "a", "A", "v", "V", "0", "1", "2", ".", "-", "+", "_", "!", " ", "\n", "é", "\xff", "+incompatible") {
			versionIs(t, s)
		}
	}
}

// compareIs: Compare, both ways round.
func compareIs(t *testing.T, a, b string, want int) {
	t.Helper()
	if got := modver.Compare(a, b); got != want {
		t.Errorf("Compare(%.80q, %.80q) = %d, want %d", a, b, got, want)
	}
	if got := modver.Compare(b, a); got != -want {
		t.Errorf("Compare(%.80q, %.80q) = %d, want %d", b, a, got, -want)
	}
}

func TestOrderExamples(t *testing.T) { // P11.6
	l := []string{"x", "v0.0.1", "v0.9.0", "v0.10.0", "v1.0.0-0", "v1.0.0-1", "v1.0.0-10", "v1.0.0-10.a", "v1.0.0--", "v1.0.0-1a", "v1.0.0-A", "v1.0.0-a", "v1.0.0-a.0", "v1.0.0-a.b", "v1.0.0-a-", "v1.0.0-ab", "v1.0.0", "v1.0.1", "v2.0.0", "v10.0.0", "v99999999999999999999.0.0"}
	for i := range l {
		for j := range i {
			compareIs(t, l[j], l[i], -1)
		}
		compareIs(t, l[i], l[i], 0)
	}
	compareIs(t, "v2.0.0", "v2.0.0+incompatible", 0)
	compareIs(t, "v2.0.0-a", "v2.0.0-a+incompatible", 0)
	compareIs(t, "v2.0.0-a+incompatible", "v2.0.0", -1)
	compareIs(t, "v2.0.0+incompatible", "v2.0.1", -1)
	compareIs(t, "v2", "latest", 0)
}

func TestNoVersionsComeFirst(t *testing.T) { // P11.6
	none := append(badVersions(), oddTexts()...)
	for _, a := range none {
		for _, b := range none {
			if !trueVersion(a) && !trueVersion(b) {
				compareIs(t, a, b, 0)
			}
		}
		for _, b := range []string{"v0.0.0-0", "v0.0.0", "v1.2.3", "v99.0.0-a", "v2.0.0+incompatible"} {
			compareIs(t, a, b, -1)
		}
	}
}

func TestLongNumbersAreNumbers(t *testing.T) { // P11.6: beyond int64 and uint64, in each place
	numbers := []string{"0", "1", "9", "10", "99", "9223372036854775807", "9223372036854775808", "18446744073709551615", "18446744073709551616", "18446744073709551617", "100000000000000000000000000000000000000000000000000", "100000000000000000000000000000000000000000000000001", "999999999999999999999999999999999999999999999999999"}
	for i, b := range numbers {
		for _, a := range numbers[:i] {
			for _, form := range []string{"v?.0.0", "v0.?.0", "v0.0.?", "v0.0.0-?", "v0.0.0-a.?.b"} {
				compareIs(t, strings.Replace(form, "?", a, 1), strings.Replace(form, "?", b, 1), -1)
			}
			compareIs(t, "v"+b+".0."+a, "v"+b+".0."+b, -1)
			compareIs(t, "v"+a+".9.9", "v"+b+".0.0", -1)
			compareIs(t, "v1."+a+".9", "v1."+b+".0", -1)
			compareIs(t, "v0.0.0-"+b, "v0.0.0-"+a+"a", -1)
		}
	}
}

// someVersions: in many shapes, few of them far from one another.
func someVersions() []string {
	l := append(goodVersions(), "", "x", "v1.0")
	words := []string{"0", "1", "2", "10", "9", "00a", "1a", "-", "--", "-1", "A", "B", "Z", "a", "a-", "a0", "aa", "ab", "b", "rc"}
	for _, w := range words {
		l = append(l, "v1.0.0-"+w, "v2.0.0-"+w+"+incompatible", "v2.0.0-"+w)
		for _, x := range words[:12] {
			l = append(l, "v1.0.0-"+w+"."+x, "v1.0.0-a."+w+"."+x)
		}
	}
	for _, s := range eachOf(3, "0", "1", "2", "10") {
		if n := strings.Trim(strings.ReplaceAll(s, "", "."), "."); trueVersion("v" + n) {
			l = append(l, "v"+n, "v"+n+"-a")
		}
	}
	return l
}

func TestOrderOfMany(t *testing.T) { // P11.6
	l := someVersions()
	for i, a := range l {
		for _, b := range l[i:] {
			compareIs(t, a, b, trueCompare(a, b))
		}
	}
}

func TestOrderByChance(t *testing.T) { // P11.6
	chance := rand.New(rand.NewSource(6))
	pieces := []string{"0", "1", "2", "9", "a", "b", "A", "-", ".", "."}
	one := func() string {
		v := "v" + string("012"[chance.Intn(3)]) + "." + string("01"[chance.Intn(2)]) + "." + string("01"[chance.Intn(2)])
		if n := chance.Intn(6); n > 0 {
			v += "-"
			for range n {
				v += pieces[chance.Intn(len(pieces))]
			}
		}
		return v + []string{"", "", "+incompatible"}[chance.Intn(3)]
	}
	for range 300000 {
		a, b := one(), one()
		if chance.Intn(2) == 0 { // of one pre-release the rest alone parts them
			b = a[:chance.Intn(len(a)+1)] + b[min(len(b), 6):]
		}
		compareIs(t, a, b, trueCompare(a, b))
	}
}

func TestOrderSorts(t *testing.T) { // P11.6: three in a row are in the order of the ends
	l := someVersions()
	slices.SortStableFunc(l, modver.Compare)
	for i := 1; i < len(l); i++ {
		if trueCompare(l[i-1], l[i]) > 0 {
			t.Errorf("%q comes ahead of %q", l[i-1], l[i])
		}
	}
}
