package modver_test

import (
	"encoding/base64"
	"math/big"
	"regexp"
	"slices"
	"strings"

	"ledger/api"
)

// What follows says the chapter's words again, in patterns and numbers of any length: what the program answers is held against it.

var (
	pathBytes  = regexp.MustCompile(`^[A-Za-z0-9\-._~/]*$`)
	emptyPiece = regexp.MustCompile(`^/|//|/$`)
	dotAtEnd   = regexp.MustCompile(`(^|/)\.|\.(/|$)`)
	firstPiece = regexp.MustCompile(`^[a-z0-9.][a-z0-9.-]*(/|$)`)
	firstDot   = regexp.MustCompile(`^[^/]*\.`)
	device     = regexp.MustCompile(`(?i)(^|/)(con|prn|aux|nul|com[1-9]|lpt[1-9])([./]|$)`)
	shortName  = regexp.MustCompile(`(^|/)[^./]*~[0-9]+([./]|$)`)
	numbered   = regexp.MustCompile(`/v([0-9.]+)$`)
	majorForm  = regexp.MustCompile(`^([2-9]|[1-9][0-9]+)$`)
	hostForm   = regexp.MustCompile(`^gopkg\.in(/|$)`)
	hostMajor  = regexp.MustCompile(`\.v(0|[1-9][0-9]*)(-unstable)?$`)

	versionForm = regexp.MustCompile(`^v(0|[1-9][0-9]*)\.(0|[1-9][0-9]*)\.(0|[1-9][0-9]*)(?:-((?:[0-9A-Za-z-]+)(?:\.[0-9A-Za-z-]+)*))?(\+incompatible)?$`)
	zeroAhead   = regexp.MustCompile(`^0[0-9]+$`)
	digitsAlone = regexp.MustCompile(`^[0-9]+$`)
	badEscape   = regexp.MustCompile(`[A-Z]|!([^a-z]|$)`)
	escaped     = regexp.MustCompile(`![a-z]`)
	capital     = regexp.MustCompile(`[A-Z]`)
	recordForm  = regexp.MustCompile(`^([^ \n]+) ([^ \n]+) ([^ \n]+)\n([^ \n]+) ([^ \n]+) ([^ \n]+)\n$`)
)

// trueRules: which of the eight rules hold for a path.
func trueRules(p string) (holds [8]bool) {
	holds[0] = len(p) >= 1 && len(p) <= 255
	holds[1] = pathBytes.MatchString(p)
	holds[2] = !emptyPiece.MatchString(p)
	holds[3] = !dotAtEnd.MatchString(p)
	holds[4] = firstPiece.MatchString(p) && firstDot.MatchString(p)
	holds[5] = !device.MatchString(p) && !shortName.MatchString(p)
	host := hostForm.MatchString(p)
	last := numbered.FindStringSubmatch(p)
	holds[6] = host || last == nil || majorForm.MatchString(last[1])
	holds[7] = !host || hostMajor.MatchString(p)
	return holds
}

func truePath(p string) bool {
	return trueRules(p) == [8]bool{true, true, true, true, true, true, true, true}
}

// trueMajor: of a module path; "" if it has none.
func trueMajor(p string) string {
	form := numbered
	if hostForm.MatchString(p) {
		form = hostMajor
	}
	if m := form.FindStringSubmatch(p); m != nil {
		return m[1]
	}
	return ""
}

// split: a version's three numbers, the words of its pre-release, and whether +incompatible stands there.
type split struct {
	numbers      []string
	words        []string
	incompatible bool
}

func trueSplit(v string) (split, bool) {
	m := versionForm.FindStringSubmatch(v)
	if m == nil || len(v) > 128 {
		return split{}, false
	}
	s := split{numbers: m[1:4], incompatible: m[5] != ""}
	if m[4] != "" {
		s.words = strings.Split(m[4], ".")
	}
	if slices.ContainsFunc(s.words, zeroAhead.MatchString) {
		return split{}, false
	}
	if s.incompatible && (m[1] == "0" || m[1] == "1") {
		return split{}, false
	}
	return s, true
}

func trueVersion(v string) bool {
	_, ok := trueSplit(v)
	return ok
}

// trueFit: of a path and a version: is either none, or does it not fit?
func trueFit(p, v string) api.Errno {
	if !truePath(p) {
		return api.ErrModPath
	}
	s, ok := trueSplit(v)
	if !ok {
		return api.ErrVersion
	}
	major, low := trueMajor(p), s.numbers[0] == "0" || s.numbers[0] == "1"
	if major != "" && major == s.numbers[0] && !s.incompatible || major == "" && (low || s.incompatible) {
		return api.OK
	}
	return api.ErrVersion
}

func bigOf(digits string) *big.Int {
	n, _ := new(big.Int).SetString(digits, 10)
	return n
}

func trueWords(a, b string) int {
	x, y := digitsAlone.MatchString(a), digitsAlone.MatchString(b)
	if x && y {
		return bigOf(a).Cmp(bigOf(b))
	}
	if x {
		return -1
	}
	if y {
		return 1
	}
	return strings.Compare(a, b)
}

// trueCompare: the order of versions.
func trueCompare(a, b string) int {
	v, okV := trueSplit(a)
	w, okW := trueSplit(b)
	switch {
	case !okV && !okW:
		return 0
	case !okV:
		return -1
	case !okW:
		return 1
	}
	for i := range 3 {
		if c := bigOf(v.numbers[i]).Cmp(bigOf(w.numbers[i])); c != 0 {
			return c
		}
	}
	switch {
	case v.words == nil && w.words == nil:
		return 0
	case v.words == nil:
		return 1
	case w.words == nil:
		return -1
	}
	for i := 0; ; i++ {
		switch {
		case i == len(v.words) && i == len(w.words):
			return 0
		case i == len(v.words):
			return -1
		case i == len(w.words):
			return 1
		}
		if c := trueWords(v.words[i], w.words[i]); c != 0 {
			return c
		}
	}
}

func trueEscape(s string) string {
	return capital.ReplaceAllStringFunc(s, func(c string) string { return "!" + strings.ToLower(c) })
}

// trueUnescape: ErrEscape, or the text whose escaped form s is.
func trueUnescape(s string) (string, api.Errno) {
	if badEscape.MatchString(s) {
		return "", api.ErrEscape
	}
	return escaped.ReplaceAllStringFunc(s, func(c string) string { return strings.ToUpper(c[1:]) }), api.OK
}

func trueParseKey(s string) (path, version string, e api.Errno) {
	parts := strings.Split(s, "@")
	if len(parts) != 2 {
		return "", "", api.ErrKey
	}
	if e := trueFit(parts[0], parts[1]); e != api.OK {
		return "", "", e
	}
	return parts[0], parts[1], api.OK
}

func trueSum(h [32]byte) string { return "h1:" + base64.StdEncoding.EncodeToString(h[:]) }

func trueParseSum(s string) ([32]byte, api.Errno) {
	if len(s) == 47 && s[:3] == "h1:" {
		b, err := base64.StdEncoding.Strict().DecodeString(s[3:])
		if err == nil && len(b) == 32 && trueSum([32]byte(b)) == s {
			return [32]byte(b), api.OK
		}
	}
	return [32]byte{}, api.ErrSum
}

// read: what is read from a record.
type read struct {
	path, version string
	tree, mod     [32]byte
	e             api.Errno
}

func trueRecord(path, version string, tree, mod [32]byte) string {
	return path + " " + version + " " + trueSum(tree) + "\n" + path + " " + version + "/go.mod " + trueSum(mod) + "\n"
}

func trueParseRecord(s string) read {
	m := recordForm.FindStringSubmatch(s)
	if len(s) > 1024 || m == nil || m[1] != m[4] || m[5] != m[2]+"/go.mod" {
		return read{e: api.ErrRecord}
	}
	if e := trueFit(m[1], m[2]); e != api.OK {
		return read{e: e}
	}
	tree, e := trueParseSum(m[3])
	mod, f := trueParseSum(m[6])
	if e != api.OK || f != api.OK {
		return read{e: api.ErrSum}
	}
	return read{m[1], m[2], tree, mod, api.OK}
}

// around: s with each of its bytes taken away, doubled, and with one of these texts in its place or ahead of it; and with them at its end.
func around(s string, texts ...string) []string {
	var l []string
	for i := range len(s) {
		l = append(l, s[:i]+s[i+1:], s[:i+1]+s[i:])
		for _, t := range texts {
			l = append(l, s[:i]+t+s[i:], s[:i]+t+s[i+1:])
		}
	}
	for _, t := range texts {
		l = append(l, s+t)
	}
	return l
}

// eachOf: all texts of up to n of these pieces.
func eachOf(n int, pieces ...string) []string {
	all, latest := []string{""}, []string{""}
	for range n {
		var longer []string
		for _, s := range latest {
			for _, piece := range pieces {
				longer = append(longer, s+piece)
			}
		}
		all = append(all, longer...)
		latest = longer
	}
	return all
}

// oddTexts: of which each call must answer something.
func oddTexts() []string {
	return []string{
		"", " ", "\n", "\x00", "\xff", "\xc3", "é", "\u212a", "\u017f", "\u0663", "\ufffd", "\xed\xa0\x80", "!", "@", "/", ".", "..", "~", "-", "+", "v", "h1:",
		strings.Repeat("a", 600), strings.Repeat("/", 600), strings.Repeat(".", 600), strings.Repeat("!", 600), strings.Repeat("@", 600), strings.Repeat("\n", 600), strings.Repeat(" ", 600), strings.Repeat("\xff", 600), strings.Repeat("!a", 600), strings.Repeat("0", 600), strings.Repeat("v2.", 600), strings.Repeat("-", 600), strings.Repeat("~1", 600),
	}
}
