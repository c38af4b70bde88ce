package modver_test

import (
	"strings"
	"testing"

	"ledger/api"
	"ledger/modver"
)

// unescapesAs: UnescapePath and UnescapeVersion, against the words.
func unescapesAs(t *testing.T, s string) {
	t.Helper()
	plain, e := trueUnescape(s)
	path, pathError, version, versionError := plain, e, plain, e
	if e == api.OK && !truePath(plain) {
		pathError = api.ErrModPath
	}
	if e == api.OK && !trueVersion(plain) {
		versionError = api.ErrVersion
	}
	if pathError != api.OK {
		path = ""
	}
	if versionError != api.OK {
		version = ""
	}
	if got, e := modver.UnescapePath(s); got != path || e != pathError {
		t.Errorf("UnescapePath(%.80q) = %.80q, %d, want %.80q, %d", s, got, int(e), path, int(pathError))
	}
	if got, e := modver.UnescapeVersion(s); got != version || e != versionError {
		t.Errorf("UnescapeVersion(%.80q) = %.80q, %d, want %.80q, %d", s, got, int(e), version, int(versionError))
	}
}

func TestEscapedPathExamples(t *testing.T) { // P11.3
	const path, form = "example.com/Azure/SDK", "example.com/!azure/!s!d!k"
	if s, e := modver.EscapePath(path); s != form || e != api.OK {
		t.Errorf("EscapePath(%q) = %q, %d", path, s, int(e))
	}
	if s, e := modver.UnescapePath(form); s != path || e != api.OK {
		t.Errorf("UnescapePath(%q) = %q, %d", form, s, int(e))
	}
	for s, want := range map[string]api.Errno{
		"example.com/Azure": api.ErrEscape,
		"example.com/!":     api.ErrEscape,
		"example.com/!!a":   api.ErrEscape,
		"example.com/!A":    api.ErrEscape,
		"example.com/a!":    api.ErrEscape,
		"!example.com":      api.ErrModPath,
		"":                  api.ErrModPath,
		"example.com/!con":  api.ErrModPath,
	} {
		if got, e := modver.UnescapePath(s); got != "" || e != want {
			t.Errorf("UnescapePath(%q) = %q, %d, want %d", s, got, int(e), int(want))
		}
	}
}

func TestEscapedVersionExamples(t *testing.T) { // P11.4
	if s, e := modver.EscapeVersion("v1.0.0-RC1"); s != "v1.0.0-!r!c1" || e != api.OK {
		t.Errorf("EscapeVersion: %q, %d", s, int(e))
	}
	if s, e := modver.UnescapeVersion("v1.0.0-!r!c1"); s != "v1.0.0-RC1" || e != api.OK {
		t.Errorf("UnescapeVersion: %q, %d", s, int(e))
	}
	for s, want := range map[string]api.Errno{"v1.0.0-RC1": api.ErrEscape, "!v1.0.0": api.ErrVersion, "": api.ErrVersion, "v1.0.0!": api.ErrEscape, "v1": api.ErrVersion} {
		if got, e := modver.UnescapeVersion(s); got != "" || e != want {
			t.Errorf("UnescapeVersion(%q) = %q, %d, want %d", s, got, int(e), int(want))
		}
	}
}

func TestEscapeErrorsComeFirst(t *testing.T) { // P11.3, P11.4, P0.1: ErrEscape, wherever it stands and whatever else is amiss
	noEscape := func(s string) {
		t.Helper()
		if got, e := modver.UnescapePath(s); got != "" || e != api.ErrEscape {
			t.Errorf("UnescapePath(%.80q) = %q, %d, want ErrEscape", s, got, int(e))
		}
		if got, e := modver.UnescapeVersion(s); got != "" || e != api.ErrEscape {
			t.Errorf("UnescapeVersion(%.80q) = %q, %d, want ErrEscape", s, got, int(e))
		}
	}
	for _, rest := range []string{"", "a.com", "v1.0.0", "//", "\xff", "!a", strings.Repeat("x", 600)} {
		noEscape(rest + "!")
		for _, fault := range []string{"A", "Z", "!A", "!1", "!!", "! ", "!\n", "!\xff", "!é", "!.", "!/", "!{", "!`"} {
			noEscape(fault + rest)
			noEscape(rest + fault)
			noEscape(rest + fault + rest)
		}
	}
}

func TestEachByteEscaped(t *testing.T) { // P11.3, P11.4
	for c := range 256 {
		for _, form := range []string{"?", "a.com/?", "a.com/!?", "a.com/?a", "a.com/!a?", "a?.com", "a!?.com", "v1.0.0-?", "v1.0.0-!?", "v1.0.0-!a?", "v1.0.0?", "?1.0.0", "!?1.0.0", "v1.0.0-?b"} {
			unescapesAs(t, strings.Replace(form, "?", string([]byte{byte(c)}), 1))
		}
	}
	for c := 'A'; c <= 'Z'; c++ {
		small := string(c - 'A' + 'a')
		if s, e := modver.EscapePath("a.com/" + string(c)); s != "a.com/!"+small || e != api.OK {
			t.Errorf("EscapePath of %c: %q, %d", c, s, int(e))
		}
		if s, e := modver.EscapeVersion("v1.0.0-" + string(c)); s != "v1.0.0-!"+small || e != api.OK {
			t.Errorf("EscapeVersion of %c: %q, %d", c, s, int(e))
		}
	}
}

func TestUnescapeTurnsEscapeRound(t *testing.T) { // P11.3, P11.4: just what the one gives the other takes
	for _, p := range append(goodPaths(), "a.com/ABC/xYz/~_-Q", "a.B", "a.com/AZaz09") {
		s, e := modver.EscapePath(p)
		if e != api.OK {
			continue
		}
		if back, e := modver.UnescapePath(s); back != p || e != api.OK {
			t.Errorf("UnescapePath(EscapePath(%q)) = %q, %d", p, back, int(e))
		}
		if strings.ToLower(s) != s {
			t.Errorf("EscapePath(%q) = %q has a capital letter", p, s)
		}
	}
	for _, v := range goodVersions() {
		s, _ := modver.EscapeVersion(v)
		if back, e := modver.UnescapeVersion(s); back != v || e != api.OK {
			t.Errorf("UnescapeVersion(EscapeVersion(%q)) = %q, %d", v, back, int(e))
		}
	}
	for _, s := range eachOf(4, "!", "a", "B", "/", ".", "z", "1") {
		for _, start := range []string{"", "a.b/", "v1.0.0-"} {
			s := start + s
			unescapesAs(t, s)
			if p, e := modver.UnescapePath(s); e == api.OK {
				if again, e := modver.EscapePath(p); again != s || e != api.OK {
					t.Errorf("UnescapePath takes %q, EscapePath gives %q", s, again)
				}
			}
			if v, e := modver.UnescapeVersion(s); e == api.OK {
				if again, e := modver.EscapeVersion(v); again != s || e != api.OK {
					t.Errorf("UnescapeVersion takes %q, EscapeVersion gives %q", s, again)
				}
			}
		}
	}
}

func TestEscapedLengths(t *testing.T) { // P11.3, P11.4: the bound is on the plain text
	for n := 250; n <= 258; n++ {
		pathIs(t, "a.b/"+strings.Repeat("X", n-4))
		unescapesAs(t, "a.b/"+strings.Repeat("!x", n-4))
		unescapesAs(t, "a.b/"+strings.Repeat("x", n-4))
	}
	for n := 124; n <= 132; n++ {
		versionIs(t, "v1.0.0-"+strings.Repeat("X", n-7))
		unescapesAs(t, "v1.0.0-"+strings.Repeat("!x", n-7))
		unescapesAs(t, "v1.0.0-"+strings.Repeat("x", n-7))
	}
	if s, e := modver.EscapePath("a.b/" + strings.Repeat("X", 251)); len(s) != 4+502 || e != api.OK {
		t.Errorf("EscapePath of 255 bytes: %d bytes, %d", len(s), int(e))
	}
}

func TestNearbyEscaped(t *testing.T) { // P11.3, P11.4
	for _, s := range append(goodPaths(), goodVersions()...) {
		for _, near := range around(trueEscape(s), "!", "a", "A", "!x", "1", "\xff") {
			unescapesAs(t, near)
		}
	}
	for _, s := range append(badPaths(), append(badVersions(), oddTexts()...)...) {
		unescapesAs(t, s)
		unescapesAs(t, trueEscape(s))
	}
}
