package world_test

import (
	"fmt"
	"reflect"
	"strings"
	"testing"

	"ledger/api"
	"ledger/world"
)

// answers: what Do answers to a line that is not played.
func answers(t *testing.T, w *world.World, line string, want api.Errno) {
	t.Helper()
	if story, e := w.Do(line); story != "" || e != want {
		t.Errorf("Do(%s) = %s, %d; want %d", short(line), short(story), int(e), int(want))
	}
}

func TestAWorldPlaysSoManyLines(t *testing.T) { // P20.3, P0.1: those count that tell something, whatever they tell
	w := world.New()
	for i := range 1024 {
		answers(t, w, "", api.OK)
		answers(t, w, "# head a", api.OK)
		answers(t, w, "heads a", api.ErrScript)
		answers(t, w, "latest a 9", api.ErrRange)
		answers(t, w, strings.Repeat("#", 65537), api.ErrLong)
		switch i % 3 {
		case 0:
			tells(t, w, "head zz", "head zz nobody\n")
		case 1:
			does(t, w, logLine("a", "o", 1)) // ok, then taken
		default:
			does(t, w, "open a")
		}
	}
	for _, line := range []string{"head a", "", "  ", "# head a", "heads a", "latest a 9", "head a\n", strings.Repeat(" ", 65537)} {
		answers(t, w, line, api.ErrLong) // ahead of all else
	}
	if f, e := w.Files("a"); len(f) != 1 || e != api.OK {
		t.Errorf("Files behind the last line: %v, %d", f, int(e))
	}
	if n := world.MaxLines; n != 1024 || world.MaxScript != 65536 || world.MaxActors != 16 {
		t.Errorf("the constants are %d, %d, %d", n, world.MaxScript, world.MaxActors)
	}
}

func TestLongLines(t *testing.T) { // P20.3, P0.1: by the bytes, ahead of all else
	w := played(t, logLine("a", "o", 1))
	for _, rest := range []string{"x", " ", "\xff", "\n", "#"} {
		answers(t, w, strings.Repeat(rest, 65537), api.ErrLong)
	}
	tells(t, w, "head a"+strings.Repeat(" ", 65530), "head a 0 "+quoted(signed("o", 1))+"\n")
	answers(t, w, "head a"+strings.Repeat(" ", 65531), api.ErrLong)
	tells(t, w, "ask a "+strings.Repeat("x", 65530), does(t, w, "ask a "+strings.Repeat("x", 65530)))
	answers(t, w, strings.Repeat(" ", 65536), api.OK)
	answers(t, w, "ask a "+strings.Repeat("x", 65531), api.ErrLong)
}

func TestRefusedLinesDoNothing(t *testing.T) { // P0.1: with an error the world stays as it was
	w := played(t, logLine("a", "log.example", 1), clientLine("c", "a"), "add a m.example/a v1.0.0 1", "latest c 1", "answer c x")
	before := map[string]any{}
	for _, name := range []string{"a", "c"} {
		before[name], _ = w.Files(name)
	}
	for _, line := range []string{
		"log b o 32 8 2 1 1099511627777", "log b o 100 8 2 1 1", "client d a 2147483649 1", "add a m.example/b v1.0.0 1 m.example/c v1.0.0 2147483649", "put a", "fail a 10000 dead", "crash a 2147483649", "crash c 0 x", "open a\n", "turn c", "answer c x y", "spoil c 0 2147483649", "look c m.example/a v1.0.0 9", "latest c 1 0*d", "merge c c 0",
	} {
		if story, e := w.Do(line); story != "" || e != api.ErrRange && e != api.ErrScript {
			t.Errorf("Do(%q) = %q, %d", line, story, int(e))
		}
	}
	for name, files := range before {
		if now, _ := w.Files(name); !reflect.DeepEqual(any(now), files) {
			t.Errorf("refused lines change the files of %s", name)
		}
	}
	r := record("m.example/a", "v1.0.0", 1)
	tells(t, w, "head b", "head b nobody\n")
	tells(t, w, "latest d 1", "latest d nobody\n")
	tells(t, w, "latest c 1", failed("latest", "c", api.ErrResponse, 1, r)) // the forged answer waits still
	tells(t, w, "add a m.example/b v1.0.0 1", "add a ok 1\n")
}

func TestAnyBytesAreRefusedOrPlayed(t *testing.T) { // P0.1: nothing panics, whatever is handed in
	words := []string{"log", "client", "add", "put", "ask", "head", "fail", "crash", "open", "turn", "answer", "spoil", "look", "latest", "merge", "judge", "a", "b", "c", `""`, `"x y"`, "0", "1", "8", "9999", "m.example/a", "v1.0.0", "d", "2*x", "l4", "io", "dead", "#", "\"", "\\", "\x00", "\xff", "\t", "\n", "-1", "*"}
	r := newWalker(3, false)
	w := world.New()
	for i := range 30000 {
		if i%900 == 0 {
			w = world.New()
			for _, line := range r.begin() {
				does(t, w, line)
			}
		}
		line := ""
		for range r.Intn(9) {
			line += words[r.Intn(len(words))] + r.pick(" ", " ", " ", "  ", "")
		}
		story, e := w.Do(line)
		words, want := lineError(line)
		if strings.Contains(line, "\n") {
			words, want = nil, api.ErrScript
		}
		if e != want || (story != "") != (words != nil) {
			t.Fatalf("Do(%q) = %q, %d; want %d", line, story, int(e), int(want))
		}
		if story != "" && (!strings.HasSuffix(story, "\n") || !strings.HasPrefix(story, fmt.Sprint(words[0], " ", words[1], " "))) {
			t.Fatalf("Do(%q) tells %q", line, story)
		}
	}
}
