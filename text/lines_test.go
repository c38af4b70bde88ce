package text_test

import (
	"slices"
	"strings"
	"testing"

	"ledger/api"
	"ledger/text"
)

func linesAre(t *testing.T, s string, want ...string) {
	t.Helper()
	if l, e := text.Lines(s); e != api.OK || !slices.Equal(l, want) {
		t.Errorf("Lines(%.40q): %.40q, %d, want %.40q", s, l, e, want)
	}
}

func linesRefuse(t *testing.T, s string, want api.Errno) {
	t.Helper()
	if l, e := text.Lines(s); e != want || len(l) != 0 {
		t.Errorf("Lines(%.40q): %d lines, %d, want %d", s, len(l), e, want)
	}
}

// gone: the lines that Each goes over; their numbers must be 0, 1, 2, ..
func gone(t *testing.T, s string) (lines []string) {
	t.Helper()
	for i, line := range text.Each(s) {
		if i != len(lines) {
			t.Errorf("Each(%.40q): the line behind %d others has the number %d", s, len(lines), i)
		}
		lines = append(lines, line)
	}
	return lines
}

func eachIs(t *testing.T, s string, want ...string) {
	t.Helper()
	if l := gone(t, s); !slices.Equal(l, want) {
		t.Errorf("Each(%.40q): %.40q, want %.40q", s, l, want)
	}
}

// smallTexts: lines' ends, a blank line's neighbours, and bytes that others take for ends or that are no UTF-8.
func smallTexts(do func(s string)) {
	eachText([]string{"\n", "a", "\r", "\x00", "\xff"}, 6, do)
}

func TestLinesExamples(t *testing.T) { // P6.7
	linesAre(t, "")
	linesAre(t, "\n", "")
	linesAre(t, "a\n\nb\r\n", "a", "", "b\r")
	linesAre(t, "\x00\xff\u2028\v\n", "\x00\xff\u2028\v")
	for _, s := range []string{"a", "a\nb", "\n\r", "\r", " ", "a\n\x00"} {
		linesRefuse(t, s, api.ErrLine)
	}
}

func TestLinesOfSmallTexts(t *testing.T) { // P6.7
	smallTexts(func(s string) {
		parts := strings.Split(s, "\n")
		if parts[len(parts)-1] != "" {
			linesRefuse(t, s, api.ErrLine)
		} else {
			linesAre(t, s, parts[:len(parts)-1]...)
		}
	})
}

func TestLinesLengths(t *testing.T) { // P6.7, P0.1
	linesAre(t, strings.Repeat("\n", api.MaxBytes), make([]string, api.MaxBytes)...)
	linesAre(t, strings.Repeat("a", api.MaxBytes-1)+"\n", strings.Repeat("a", api.MaxBytes-1))
	linesRefuse(t, strings.Repeat("a", api.MaxBytes), api.ErrLine)
	linesRefuse(t, strings.Repeat("a", api.MaxBytes+1), api.ErrLong)
	linesRefuse(t, strings.Repeat("a", api.MaxBytes)+"\n", api.ErrLong)
	linesRefuse(t, strings.Repeat("\n", 2*api.MaxBytes), api.ErrLong)
}

func TestEachExamples(t *testing.T) { // P6.8
	eachIs(t, "")
	eachIs(t, "a", "a")
	eachIs(t, "a\n", "a")
	eachIs(t, "a\n\nb", "a", "", "b")
	eachIs(t, "\n\n", "", "")
	eachIs(t, "\n", "")
	eachIs(t, "\nb\r", "", "b\r")
}

func TestEachOfSmallTexts(t *testing.T) { // P6.8
	smallTexts(func(s string) {
		parts := strings.Split(s, "\n")
		if last := len(parts) - 1; parts[last] == "" {
			parts = parts[:last]
		}
		eachIs(t, s, parts...)
	})
}

func TestEachLengths(t *testing.T) { // P6.8, P0.1
	eachIs(t, strings.Repeat("\n", api.MaxBytes), make([]string, api.MaxBytes)...)
	eachIs(t, strings.Repeat("a", api.MaxBytes), strings.Repeat("a", api.MaxBytes))
	for _, s := range []string{"a", "\n", "a\n"} {
		eachIs(t, strings.Repeat(s, api.MaxBytes+1))
	}
}

func TestEachSeveralTimes(t *testing.T) { // P6.8
	lines := text.Each("a\nb\nc")
	for range 3 {
		got := ""
		for i, line := range lines {
			got += string(rune('0'+i)) + line
		}
		if got != "0a1b2c" {
			t.Errorf("gone through again: %q", got)
		}
		for range lines { // left early, which the next time must not be seen
			break
		}
	}
}

func TestEachWithinItself(t *testing.T) { // P6.8
	got, lines := "", text.Each("a\nb\n")
	for i, outer := range lines {
		for k, inner := range lines {
			got += string(rune('0'+i)) + outer + string(rune('0'+k)) + inner + " "
		}
	}
	if got != "0a0a 0a1b 1b0a 1b1b " {
		t.Errorf("one loop within the other: %q", got)
	}
}

func TestEachLeftEarly(t *testing.T) { // P6.8
	const s = "a\n\nc\nd"
	for last := range 4 {
		calls := 0
		text.Each(s)(func(i int, line string) bool {
			calls++
			return i < last
		})
		if calls != last+1 {
			t.Errorf("left at line %d: %d calls", last, calls)
		}
	}
	for range text.Each(s) {
		return
	}
	t.Error("nothing was gone through")
}

func cutIs(t *testing.T, s, before, after string, ok bool) {
	t.Helper()
	if a, b, found := text.Cut(s); a != before || b != after || found != ok {
		t.Errorf("Cut(%.40q): %.40q, %.40q, %v, want %.40q, %.40q, %v", s, a, b, found, before, after, ok)
	}
}

func TestCutExamples(t *testing.T) { // P6.9
	cutIs(t, "a\n\nb\n", "a\n", "b\n", true)
	cutIs(t, "a\n\nb\n\nc", "a\n\nb\n", "c", true)
	cutIs(t, "a\n\n\nb", "a\n\n", "b", true)
	cutIs(t, "\n\n", "\n", "", true)
	cutIs(t, "\n\n\n", "\n\n", "", true)
	cutIs(t, "a\n\n", "a\n", "", true)
	for _, s := range []string{"", "\n", "a\nb", "a\n", "\na\n", "a\n\r\nb", "a\n \nb"} {
		cutIs(t, s, "", "", false)
	}
}

func TestCutOfSmallTexts(t *testing.T) { // P6.9
	smallTexts(func(s string) {
		for i := len(s) - 2; i >= 0; i-- {
			if s[i] == '\n' && s[i+1] == '\n' {
				cutIs(t, s, s[:i+1], s[i+2:], true)
				if before, after, _ := text.Cut(s); before+"\n"+after != s {
					t.Errorf("Cut(%q): %q and %q don't make it up", s, before, after)
				}
				return
			}
		}
		cutIs(t, s, "", "", false)
	})
}

func TestCutLengths(t *testing.T) { // P6.9, P0.1
	long := strings.Repeat("a", api.MaxBytes-2)
	cutIs(t, "\n\n"+long, "\n", long, true)
	cutIs(t, long+"\n\n", long+"\n", "", true)
	cutIs(t, strings.Repeat("\n", api.MaxBytes), strings.Repeat("\n", api.MaxBytes-1), "", true)
	cutIs(t, "a\n\n"+long, "", "", false)
	cutIs(t, long+"\n\na", "", "", false)
	cutIs(t, strings.Repeat("\n", api.MaxBytes+1), "", "", false)
}
