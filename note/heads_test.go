package note_test

import (
	"encoding/base64"
	"math"
	"regexp"
	"strconv"
	"strings"
	"testing"

	"ledger/api"
	"ledger/note"
)

const emptyHead = "log.example\n0\n47DEQpj8HBSa+/TImW+5JCeuQeRkm5NMpJWZG3hSuFU=\n"

func someSizes() []int64 {
	return []int64{0, 1, 7, 10, 1048576, 1<<48 - 1, 1 << 48}
}

func TestHeads(t *testing.T) { // P7.12, P7.13
	for _, origin := range someNames() {
		for _, size := range someSizes() {
			for _, root := range []api.Hash{{}, up(), {31: 0xff}, {0: 0xff}} {
				h := note.Head{Origin: origin, Size: size, Root: root}
				want := origin + "\n" + strconv.FormatInt(size, 10) + "\n" + encode(root[:]) + "\n"
				if s, e := note.FormatHead(h); s != want || e != api.OK {
					t.Errorf("FormatHead(%v): %q, %d, want %q", h, s, e, want)
				}
				if back, e := note.ParseHead(want); back != h || e != api.OK {
					t.Errorf("ParseHead(%q): %v, %d", want, back, e)
				}
			}
		}
	}
}

func TestFormatHeadRefuses(t *testing.T) { // P7.12, P0.1
	is := func(h note.Head, want api.Errno) {
		t.Helper()
		if s, e := note.FormatHead(h); s != "" || e != want {
			t.Errorf("FormatHead(%v): %q, %d, want %d", h, s, e, want)
		}
	}
	for _, origin := range []string{"", "a b", "a\n", "a+b", "\xff", strings.Repeat("n", 101)} {
		is(note.Head{Origin: origin, Size: 1}, api.ErrName)
		is(note.Head{Origin: origin, Size: -1}, api.ErrName)
	}
	for _, size := range []int64{-1, math.MinInt64, 1<<48 + 1, math.MaxInt64} {
		is(note.Head{Origin: "a", Size: size}, api.ErrArg)
	}
}

func headRefused(t *testing.T, s string) {
	t.Helper()
	if h, e := note.ParseHead(s); h != (note.Head{}) || e != api.ErrHead {
		t.Errorf("ParseHead(%.120q): %v, %d", s, h, e)
	}
}

func TestParseHeadRefuses(t *testing.T) { // P7.13, P0.1
	swap := func(old, with string) string { return strings.Replace(emptyHead, old, with, 1) }
	for _, s := range []string{
		"", "\n", "\n\n\n", emptyHead[:len(emptyHead)-1], emptyHead + "\n", emptyHead + "x\n", emptyHead + "x", "\n" + emptyHead, emptyHead + emptyHead,
		swap("\n0\n", "\n00\n"), swap("\n0\n", "\n07\n"), swap("\n0\n", "\n\n"), swap("\n0\n", "\n-1\n"), swap("\n0\n", "\n+1\n"), swap("\n0\n", "\n0 \n"), swap("\n0\n", "\n0\r\n"), swap("\n0\n", "\nx\n"), swap("\n0\n", "\n0x1\n"),
		swap("\n0\n", "\n281474976710657\n"), swap("\n0\n", "\n9223372036854775808\n"), swap("\n0\n", "\n"+strings.Repeat("9", 100)+"\n"), swap("\n0\n", "\n"),
		swap("log", "l g"), swap("log", "l+g"), swap("log.example", ""), swap("log.example", strings.Repeat("n", 101)), swap("log", "\xff"), swap("log", "l\tg"),
		swap("47DE", ""), swap("47DE", "47DEAAAA"), swap("uFU=", "uFV="), swap("uFU=", "uFUA"), swap("uFU=", "uA=="), swap("47DE", "47D-"), swap("=", ""), "log.example\n0\n\n", "log.example\n0\n", "log.example\n",
		strings.Repeat("x", 1<<21), emptyHead + strings.Repeat("\n", 1<<20), strings.Repeat("n", 1<<21) + "\n0\nAA==\n",
	} {
		headRefused(t, s)
	}
}

var headForm = regexp.MustCompile(`^([^\n]+)\n(0|[1-9][0-9]{0,14})\n([A-Za-z0-9+/]{43}=)\n$`)

func TestParseEditedHeads(t *testing.T) { // P7.13
	for _, s := range []string{emptyHead, "é\n281474976710656\n" + encode(make([]byte, 32)) + "\n"} {
		eachEdit(s, "+ \n=aA0179/\x00\xff", func(s string) {
			m := headForm.FindStringSubmatch(s)
			ok := m != nil && nameError(m[1]) == api.OK
			if ok {
				n, _ := strconv.ParseInt(m[2], 10, 64)
				_, err := base64.StdEncoding.Strict().DecodeString(m[3])
				ok = n <= 1<<48 && err == nil
			}
			if !ok {
				headRefused(t, s)
				return
			}
			h, e := note.ParseHead(s)
			if back, f := note.FormatHead(h); e != api.OK || f != api.OK || back != s {
				t.Errorf("ParseHead(%q): %v, %d; its text is %q, %d", s, h, e, back, f)
			}
		})
	}
}
