package world_test

import (
	"fmt"
	"strings"
	"testing"

	"ledger/api"
	"ledger/world"
)

// oneOfEach: a line of each word, with %s for its NAMEs.
var oneOfEach = []struct {
	line  string
	kinds string // of the NAMEs: n new, l a log, c a client, e either; a capital letter, if it may not be down
}{
	{"log %s o 32 8 2 1 1000000", "n"}, {"client %s %s 100000 9", "nl"},
	{"add %s m.example/a v1.0.0 1", "L"}, {"put %s x", "L"}, {"ask %s x", "L"}, {"head %s", "L"},
	{"fail %s 0 io", "e"}, {"crash %s", "e"}, {"open %s", "e"}, {"turn %s %s", "cl"},
	{"answer %s x", "C"}, {"spoil %s 0 0", "C"}, {"look %s m.example/a v1.0.0 1", "C"}, {"latest %s 1", "C"}, {"merge %s %s 1", "CC"}, {"judge %s %s m.example/a v1.0.0", "cc"},
}

// cast: a log and a client that are up, and a log and a client that are down.
func cast(t *testing.T) *world.World {
	t.Helper()
	w := played(t, logLine("log0", "o", 1), logLine("log1", "o", 1), clientLine("client0", "log0"), clientLine("client1", "log0"))
	for _, name := range []string{"log1", "client1"} {
		tells(t, w, "fail "+name+" 1 dead", "fail "+name+" ok\n")
		tells(t, w, "open "+name, refused("open "+name, api.ErrDead))
	}
	return w
}

// early: the word by which a line ends early; none, if it is played.
func early(kinds string, names []string) string {
	is := func(i int, kind string) bool { return strings.HasPrefix(names[i], kind) }
	if kinds[0] == 'n' && (is(0, "log") || is(0, "client")) {
		return "taken"
	}
	for i := range names {
		switch kinds[i] {
		case 'l', 'L':
			if !is(i, "log") {
				return "nobody"
			}
		case 'c', 'C':
			if !is(i, "client") {
				return "nobody"
			}
		case 'e':
			if is(i, "zz") {
				return "nobody"
			}
		}
	}
	for i := range names {
		if (kinds[i] == 'L' || kinds[i] == 'C') && strings.HasSuffix(names[i], "1") {
			return "down"
		}
	}
	return ""
}

func TestLinesThatEndEarly(t *testing.T) { // P20.3: every word, with actors of every kind at every place
	everybody := []string{"log0", "log1", "client0", "client1", "zz"}
	for _, c := range oneOfEach {
		var choices [][]string
		for _, a := range everybody {
			if len(c.kinds) == 1 {
				choices = append(choices, []string{a})
				continue
			}
			for _, b := range everybody {
				choices = append(choices, []string{a, b})
			}
		}
		for _, names := range choices {
			w := cast(t)
			line := c.line
			for _, name := range names {
				line = strings.Replace(line, "%s", name, 1)
			}
			begin := strings.Fields(line)[0] + " " + names[0] + " "
			want := early(c.kinds, names)
			got := does(t, w, line)
			if want != "" && got != begin+want+"\n" {
				t.Errorf("%s tells %q; want %s", line, got, want)
			}
			for _, word := range []string{"taken", "full", "nobody", "down"} {
				if want == "" && (got == begin+word+"\n" || !strings.HasPrefix(got, begin)) {
					t.Errorf("%s tells %q", line, got)
				}
			}
		}
	}
}

func TestSixteenOfAKind(t *testing.T) { // P20.3: taken, then full, then nobody
	w := world.New()
	for i := range 16 {
		tells(t, w, logLine(fmt.Sprint("l", i), "o", i), fmt.Sprintf("log l%d ok\n", i))
	}
	tells(t, w, logLine("l16", "o", 1), "log l16 full\n")
	tells(t, w, "log l16 a+b 32 9 3 1 0", "log l16 full\n") // ahead of all errors
	tells(t, w, logLine("l15", "o", 1), "log l15 taken\n")
	tells(t, w, "head l16", "head l16 nobody\n")
	for i := range 16 {
		tells(t, w, "client x zz 0 9999", "client x nobody\n")
		tells(t, w, clientLine("l3", "zz"), "client l3 taken\n")
		tells(t, w, clientLine(fmt.Sprint("c", i), "l0"), fmt.Sprintf("client c%d ok\n", i))
	}
	tells(t, w, clientLine("c16", "l0"), "client c16 full\n")
	tells(t, w, clientLine("c16", "zz"), "client c16 full\n")
	tells(t, w, clientLine("c3", "zz"), "client c3 taken\n")
	tells(t, w, logLine("c3", "o", 1), "log c3 taken\n")
	tells(t, w, clientLine("l3", "l0"), "client l3 taken\n")
}

func TestRefusedActorsTakeNoPlace(t *testing.T) { // P20.3: an error makes no actor, so there is room for as many as before
	w := world.New()
	for i := range 20 {
		tells(t, w, fmt.Sprintf("log l%d o 32 9 2 1 1000000", i), refused(fmt.Sprintf("log l%d", i), api.ErrConfig))
	}
	does(t, w, logLine("l0", "o", 1))
	for i := range 20 {
		tells(t, w, fmt.Sprintf("client c%d l0 0 0", i), refused(fmt.Sprintf("client c%d", i), api.ErrConfig))
	}
	tells(t, w, clientLine("c0", "l0"), "client c0 ok\n")
	if f, e := w.Files("c1"); f != nil || e != api.ErrNoSuch {
		t.Errorf("Files of a client that was not made: %v, %d", f, int(e))
	}
}

func TestNamesOfTheTwoKinds(t *testing.T) { // P20.3: a client is no log, and a log no client, also where a line of the other kind would do
	w := played(t, logLine("a", "o", 1), clientLine("c", "a"))
	for line, want := range map[string]string{
		"client d c 100000 9": "client d nobody\n", "turn c c": "turn c nobody\n", "turn a a": "turn a nobody\n", "turn a c": "turn a nobody\n", "merge c a 1": "merge c nobody\n", "merge a c 1": "merge a nobody\n", "judge c a p v": "judge c nobody\n", "judge a c p v": "judge a nobody\n",
		"head c": "head c nobody\n", "put c x": "put c nobody\n", "answer a x": "answer a nobody\n", "spoil a 0 0": "spoil a nobody\n", "crash c": "crash c ok 0\n", "open a": "open a ok 0\n", "fail c 0 io": "fail c ok\n",
	} {
		tells(t, w, line, want)
	}
}
