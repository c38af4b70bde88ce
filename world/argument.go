package world

import (
	"math"
	"strings"

	"ledger/api"
	"ledger/lane"
	"ledger/text"
)

// bounds: the numbers that may stand where a number of this kind is asked for.
var bounds = [...]struct {
	kind        byte
	least, most int64
}{
	{upTo99, 0, 99},
	{upTo9999, 0, 9999},
	{upTo2to31, 0, 1 << 31},
	{upTo2to40, 0, 1 << 40},
	{aTries, 1, 8},
}

// fateForms: of a FATE, its letter; whether a number stands behind it, and the greatest one.
var fateForms = [...]struct {
	letter string
	kind   int
	number bool
	most   int64
}{
	{"d", lane.Deliver, false, 0},
	{"x", lane.Drop, false, 0},
	{"b", lane.Double, true, 1000},
	{"l", lane.Delay, true, 1000},
	{"c", lane.Cut, true, 1048576},
	{"s", lane.Spoil, true, 1048576},
}

// failures: what the words of a KIND stand for.
var failures = [...]struct {
	word   string
	answer api.Errno
}{
	{"io", api.ErrIO},
	{"full", api.ErrFull},
	{"dead", api.ErrDead},
}

const (
	maxName   = 30
	maxRepeat = 100
)

// take: an argument of this kind. What is kept of it is a copy, so that a name doesn't hold on to a long line.
func (l *line) take(kind byte, w word) api.Errno {
	if kind == anyText {
		l.texts = append(l.texts, strings.Clone(w.value))
		l.tidy = append(l.tidy, tidyText(w.value))
		return api.OK
	}
	l.tidy = append(l.tidy, w.raw)
	switch kind {
	case aFate:
		return l.takeRun(w.raw)
	case aKind:
		return l.takeFailure(w.raw)
	case newActor, upLog, anyLog, upClient, anyClient, anyActor:
		return l.takeName(w.raw)
	}
	return l.takeNumber(kind, w.raw)
}

func tidyText(value string) string {
	if isBare(value) {
		return value
	}
	return text.Quote([]byte(value))
}

func (l *line) takeName(s string) api.Errno {
	if !isName(s) {
		return api.ErrScript
	}
	l.names = append(l.names, strings.Clone(s))
	return api.OK
}

func isName(s string) bool {
	for i, c := range []byte(s) {
		letter, digit := c >= 'a' && c <= 'z', c >= '0' && c <= '9'
		if !letter && (!digit || i == 0) {
			return false
		}
	}
	return s != "" && len(s) <= maxName
}

func (l *line) takeNumber(kind byte, s string) api.Errno {
	for _, b := range bounds {
		if b.kind == kind {
			n, e := parseNumber(s, b.least, b.most)
			l.numbers = append(l.numbers, n)
			return e
		}
	}
	return api.ErrScript
}

// parseNumber: one that no number of 64 bits can be is no number here; ErrRange is for those that may not stand at this place.
func parseNumber(s string, least, most int64) (int64, api.Errno) {
	n, e := text.ParseNumber(s, math.MaxInt64)
	if e != api.OK {
		return 0, api.ErrScript
	}
	if n < least || n > most {
		return 0, api.ErrRange
	}
	return n, api.OK
}

func (l *line) takeFailure(s string) api.Errno {
	for _, f := range failures {
		if f.word == s {
			l.failure = f.answer
			return api.OK
		}
	}
	return api.ErrScript
}

func (l *line) takeRun(s string) api.Errno {
	r, e := parseRun(s)
	l.runs = append(l.runs, r)
	return e
}

// run: so many messages, one behind the other, with one fate.
type run struct {
	times int64
	fate  lane.Fate
}

// parseRun: a FATE, with or without a number of times ahead of it.
func parseRun(s string) (run, api.Errno) {
	times, fate, repeated := strings.Cut(s, "*")
	if !repeated {
		times, fate = "1", s
	}
	n, ahead := parseNumber(times, 1, maxRepeat)
	f, behind := parseFate(fate)
	return run{times: n, fate: f}, worse(ahead, behind)
}

func parseFate(s string) (lane.Fate, api.Errno) {
	for _, f := range fateForms {
		number, ok := strings.CutPrefix(s, f.letter)
		if !ok || !f.number && number != "" {
			continue
		}
		if !f.number {
			return lane.Fate{Kind: f.kind}, api.OK
		}
		n, e := parseNumber(number, 0, f.most)
		return lane.Fate{Kind: f.kind, N: int(n)}, e
	}
	return lane.Fate{}, api.ErrScript
}

// unroll: the fates of these runs, one a message.
func unroll(runs ...run) []lane.Fate {
	var fates []lane.Fate
	for _, r := range runs {
		for range r.times {
			fates = append(fates, r.fate)
		}
	}
	return fates
}
