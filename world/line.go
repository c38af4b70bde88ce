package world

import (
	"strings"

	"ledger/api"
)

// What a word of a line may be. The kinds of NAMEs tell which actor must be there, and whether it may be down.
const (
	newActor  = '+' // to be made by the line
	upLog     = 'L'
	anyLog    = 'l' // down or not
	upClient  = 'C'
	anyClient = 'c'
	anyActor  = 'a' // a log or a client

	anyText = 'T'
	aFate   = 'F'
	aKind   = 'K'

	upTo99    = 'p'
	upTo9999  = 'q'
	upTo2to31 = 's'
	upTo2to40 = 'u'
	aTries    = 't'
)

// forms: of each word of a script, the kinds of what stands behind it: of what must, and of what may be repeated, at least and at most so many times.
var forms = [...]struct {
	word, first, again string
	least, most        int
}{
	{"log", "+Tpppsu", "", 0, 0},
	{"client", "+lsq", "", 0, 0},
	{"add", "L", "TTs", 1, 64},
	{"put", "L", "T", 1, 64},
	{"ask", "LT", "", 0, 0},
	{"head", "L", "", 0, 0},
	{"fail", "aqK", "", 0, 0},
	{"crash", "a", "s", 0, 256},
	{"open", "a", "", 0, 0},
	{"turn", "cl", "", 0, 0},
	{"answer", "CT", "", 0, 0},
	{"spoil", "Cqs", "", 0, 0},
	{"look", "CTTt", "F", 0, 256},
	{"latest", "Ct", "F", 0, 256},
	{"merge", "CCt", "F", 0, 256},
	{"judge", "ccTT", "", 0, 0},
}

// line: one that tells something: its arguments kind by kind, in their order.
type line struct {
	word    string
	kinds   string // of all arguments
	names   []string
	texts   []string
	numbers []int64
	runs    []run
	failure api.Errno // that a KIND stands for
	tidy    []string  // all words in their one form
}

// parseLine: nil and OK, if the line tells nothing. ErrScript, wherever it is found, comes ahead of ErrRange.
func parseLine(s string) (*line, api.Errno) {
	if strings.Contains(s, "\n") {
		return nil, api.ErrScript
	}
	if rest := skipBlanks(s); rest == "" || rest[0] == '#' {
		return nil, api.OK
	}
	words, e := cutWords(s)
	if e != api.OK {
		return nil, e
	}
	kinds, ok := kindsOf(words[0], len(words)-1)
	if !ok {
		return nil, api.ErrScript
	}
	l := &line{word: strings.Clone(words[0].raw), kinds: kinds, tidy: []string{words[0].raw}}
	for i, w := range words[1:] {
		e = worse(e, l.take(kinds[i], w))
	}
	if e != api.OK {
		return nil, e
	}
	return l, api.OK
}

// kindsOf: of so many arguments behind this first word; false, if there is no such line.
func kindsOf(first word, count int) (string, bool) {
	for _, f := range forms {
		if first.raw != f.word {
			continue
		}
		more := count - len(f.first)
		if f.again == "" {
			return f.first, more == 0
		}
		if more < f.least*len(f.again) || more > f.most*len(f.again) || more%len(f.again) != 0 {
			return "", false
		}
		return f.first + strings.Repeat(f.again, more/len(f.again)), true
	}
	return "", false
}

// worse: of several errors of one line the one that is told.
func worse(found ...api.Errno) api.Errno {
	worst := api.OK
	for _, e := range found {
		if e == api.ErrScript || worst == api.OK {
			worst = e
		}
	}
	return worst
}

// tell: a line of the story that begins as all do that this line tells first.
func (l *line) tell(words ...string) string {
	return tell(append([]string{l.word, l.names[0]}, words...)...)
}

func (l *line) ok(words ...string) string { return l.tell(append([]string{"ok"}, words...)...) }

func (l *line) refuse(e api.Errno) string { return l.tell("error", errorNumber(e)) }

func tell(words ...string) string { return strings.Join(words, " ") + "\n" }
