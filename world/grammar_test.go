package world_test

import (
	"math/big"
	"regexp"
	"strings"
	"testing"

	"ledger/api"
	"ledger/world"
)

// What the chapter says of a script's form, said again by regular expressions.
const (
	nameForm   = `[a-z][a-z0-9]{0,29}`
	bareForm   = `[!#-~]+`
	quotedForm = `"(?:[ !#-\[\]-~]|\\x(?:[01][0-9a-f]|22|5c|7f|[89a-f][0-9a-f]))*"`
	textForm   = `(?:` + quotedForm + `|` + bareForm + `)`
	numberForm = `(?:0|[1-9][0-9]*)`
	fateForm   = `(?:` + numberForm + `\*)?(?:[dx]|[blcs]` + numberForm + `)`
	kindForm   = `(?:io|full|dead)`
)

// place: a word of a line: its form, and of a number its bounds.
type place struct {
	form        string
	least, most int64
}

func number(least, most int64) place { return place{numberForm, least, most} }

var (
	aName = place{form: nameForm}
	aText = place{form: textForm}
	aFate = place{form: fateForm}
	aKind = place{form: kindForm}
)

// shape: a kind of line: the words behind the first; those that repeat, at least and at most so many times.
type shape struct {
	word        string
	first       []place
	again       []place
	least, most int
}

// shapes: the chapter's table.
func shapes() []shape {
	small, wide := number(0, 99), number(0, 1<<31)
	room, nine, tries := number(0, 1<<40), number(0, 9999), number(1, 8)
	fates := []place{aFate}
	return []shape{
		{word: "log", first: []place{aName, aText, small, small, small, wide, room}},
		{word: "client", first: []place{aName, aName, wide, nine}},
		{"add", []place{aName}, []place{aText, aText, wide}, 1, 64},
		{"put", []place{aName}, []place{aText}, 1, 64},
		{word: "ask", first: []place{aName, aText}},
		{word: "head", first: []place{aName}},
		{word: "fail", first: []place{aName, nine, aKind}},
		{"crash", []place{aName}, []place{wide}, 0, 256},
		{word: "open", first: []place{aName}},
		{word: "turn", first: []place{aName, aName}},
		{word: "answer", first: []place{aName, aText}},
		{word: "spoil", first: []place{aName, nine, wide}},
		{"look", []place{aName, aText, aText, tries}, fates, 0, 256},
		{"latest", []place{aName, tries}, fates, 0, 256},
		{"merge", []place{aName, aName, tries}, fates, 0, 256},
		{word: "judge", first: []place{aName, aName, aText, aText}},
	}
}

// places: of so many words behind the first; none, if that may not be.
func (s shape) places(count int) []place {
	out := s.first
	times := 0
	for len(out) < count && times < s.most {
		out = append(out[:len(out):len(out)], s.again...)
		times++
	}
	if len(out) != count || times < s.least {
		return nil
	}
	return out
}

var (
	nothingTold = regexp.MustCompile(`\A *(?:#[^\n]*)?\z`)
	wordsOfLine = regexp.MustCompile(`\A *` + textForm + `(?: +` + textForm + `)* *\z`)
	oneWord     = regexp.MustCompile(`\A *(` + textForm + `)`)
)

// split: the words of a line as they stand; false, if it has not the form of words.
func split(line string) ([]string, bool) {
	if !wordsOfLine.MatchString(line) {
		return nil, false
	}
	var words []string
	for {
		m := oneWord.FindStringSubmatch(line)
		if m == nil {
			return words, true
		}
		words = append(words, m[1])
		line = line[len(m[0]):]
	}
}

// numberError: ErrScript beyond 2^63-1, ErrRange outside of the bounds.
func numberError(s string, least, most int64) api.Errno {
	n, _ := new(big.Int).SetString(s, 10)
	switch {
	case !n.IsInt64():
		return api.ErrScript
	case n.Int64() < least || n.Int64() > most:
		return api.ErrRange
	}
	return api.OK
}

var (
	wholeWords = map[string]*regexp.Regexp{nameForm: whole(nameForm), bareForm: whole(bareForm), textForm: whole(textForm), numberForm: whole(numberForm), fateForm: whole(fateForm), kindForm: whole(kindForm)}
	fateParts  = regexp.MustCompile(`\A(?:([0-9]+)\*)?([a-z])([0-9]*)\z`)
	escapes    = regexp.MustCompile(`\\x(..)`)
)

func whole(form string) *regexp.Regexp { return regexp.MustCompile(`\A` + form + `\z`) }

// wordErrors: what is wrong with a word at a place.
func wordErrors(p place, w string) []api.Errno {
	if !wholeWords[p.form].MatchString(w) {
		return []api.Errno{api.ErrScript}
	}
	if p.form == numberForm {
		return []api.Errno{numberError(w, p.least, p.most)}
	}
	if p.form != fateForm {
		return nil
	}
	m := fateParts.FindStringSubmatch(w)
	var out []api.Errno
	if m[1] != "" {
		out = append(out, numberError(m[1], 1, 100))
	}
	if m[3] != "" {
		out = append(out, numberError(m[3], 0, map[string]int64{"b": 1000, "l": 1000, "c": 1048576, "s": 1048576}[m[2]]))
	}
	return out
}

// lineError: of one line; its words in their one form, if it tells something.
func lineError(line string) (words []string, e api.Errno) {
	if nothingTold.MatchString(line) {
		return nil, api.OK
	}
	words, ok := split(line)
	if !ok {
		return nil, api.ErrScript
	}
	var places []place
	for _, s := range shapes() {
		if s.word == words[0] {
			places = s.places(len(words) - 1)
		}
	}
	if places == nil {
		return nil, api.ErrScript
	}
	for i, p := range places {
		for _, f := range wordErrors(p, words[i+1]) {
			if f == api.ErrScript {
				return nil, f
			}
			e = max(e, f)
		}
		if p == aText {
			words[i+1] = tidyWord(words[i+1])
		}
	}
	if e != api.OK {
		return nil, e
	}
	return words, api.OK
}

// textOf: the bytes that a word TEXT stands for.
func textOf(w string) string {
	if !strings.HasPrefix(w, `"`) {
		return w
	}
	return escapes.ReplaceAllStringFunc(w[1:len(w)-1], func(s string) string {
		n, _ := new(big.Int).SetString(s[2:], 16)
		return string([]byte{byte(n.Int64())})
	})
}

func tidyWord(w string) string {
	s := textOf(w)
	if wholeWords[bareForm].MatchString(s) {
		return s
	}
	return quoted(s)
}

// linesOf: without their ends; the last one may lack it.
func linesOf(script string) []string {
	lines := strings.Split(script, "\n")
	if lines[len(lines)-1] == "" {
		lines = lines[:len(lines)-1]
	}
	return lines
}

// formOf: what Check and Tidy should answer.
func formOf(script string) (n int, e api.Errno, tidy string, f api.Errno) {
	lines := linesOf(script)
	if len(script) > 65536 || len(lines) > 1024 {
		return 0, api.ErrLong, "", api.ErrLong
	}
	for i, line := range lines {
		words, e := lineError(line)
		if e != api.OK {
			return i, e, "", e
		}
		if words != nil {
			tidy += strings.Join(words, " ") + "\n"
		}
	}
	if len(tidy) > 65536 {
		return 0, api.OK, "", api.ErrLong
	}
	return 0, api.OK, tidy, api.OK
}

// hasForm: Check and Tidy as the expressions have it; and Run and Do refuse what Check refuses.
func hasForm(t *testing.T, script string) api.Errno {
	t.Helper()
	n, e, tidy, f := formOf(script)
	if gotN, gotE := world.Check(script); gotN != n || gotE != e {
		t.Errorf("Check(%s) = %d, %d; want %d, %d", short(script), gotN, int(gotE), n, int(e))
	}
	got, g := world.Tidy(script)
	if got != tidy || g != f {
		t.Errorf("Tidy(%s) = %s, %d; want %s, %d", short(script), short(got), int(g), short(tidy), int(f))
	}
	if again, g := world.Tidy(got); again != got || g != api.OK {
		t.Errorf("Tidy of the tidy %s = %s, %d", short(got), short(again), int(g))
	}
	if story, g := world.Run(script); g != e || e != api.OK && story != "" {
		t.Errorf("Run(%s) = %s, %d; want %d", short(script), short(story), int(g), int(e))
	}
	return e
}

// isLine: the same of one line, handed to Do as well.
func isLine(t *testing.T, line string, want api.Errno) {
	t.Helper()
	if e := hasForm(t, line); e != want {
		t.Errorf("%s: the expressions say %d, the test %d", short(line), int(e), int(want))
	}
	if story, e := world.New().Do(line); e != want || e != api.OK && story != "" {
		t.Errorf("Do(%s) = %s, %d; want %d", short(line), short(story), int(e), int(want))
	}
}
