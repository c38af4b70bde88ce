package world_test

import (
	"fmt"
	"math/rand"
	"reflect"
	"strings"
	"testing"

	"ledger/api"
	"ledger/world"
)

// walker: makes lines at random, mostly of actors and keys that are there.
type walker struct {
	*rand.Rand
	strength, height int
	calm             bool // nothing that P20.5 leaves out
	mood             string
}

func (r walker) pick(words ...string) string { return words[r.Intn(len(words))] }

func (r walker) log() string    { return r.pick("a", "a", "b") }
func (r walker) client() string { return r.pick("c", "c", "d", "e") }

// key: a path and a version; now and then none.
func (r walker) key() string {
	if r.Intn(20) == 0 {
		return r.pick(`"" v1.0.0`, "m.example/a v1", "m.example v2.0.0", "A v1.0.0")
	}
	return fmt.Sprintf("m.example/%s v1.%d.0", r.pick("a", "b", "c"), r.Intn(4))
}

func (r walker) fates() string {
	out := ""
	for range r.Intn(5) {
		out += " " + r.fate()
	}
	return out
}

func (r walker) fate() string {
	times := r.pick("", "", "", "2*", "3*")
	switch r.Intn(10) {
	case 0, 1, 2:
		return times + "d"
	case 3:
		return times + "b" + fmt.Sprint(r.Intn(12))
	case 4, 5:
		return times + "l" + fmt.Sprint(r.Intn(5))
	}
	if r.calm {
		return "d"
	}
	return times + r.pick("x", "x", "l5", "l8", "l9", "l13", "c0", "c1", "c30", "c1000", "s0", "s7", "s40", "s200", "s100000")
}

func (r walker) tries() string { return fmt.Sprint(1 + r.Intn(3)) }

// line: one of a script, of any word; in some moods more of those that seldom meet.
func (r walker) line() string {
	if r.mood == "machines" && r.Intn(3) == 0 {
		return r.pick("fail "+r.pick("a", "b", "c", "d")+" "+fmt.Sprint(1+r.Intn(4))+" "+r.pick("io", "full", "dead", "dead"), "open "+r.pick("a", "b", "c", "d", "e"), "head "+r.log())
	}
	if r.mood == "judges" && r.Intn(2) == 0 {
		return fmt.Sprintf(r.pick("look %s m.example/a v1.0.0 1", "look %s m.example/a v1.0.0 1", "judge c %s m.example/a v1.0.0", "judge %s d m.example/a v1.0.0"), r.client())
	}
	switch n := r.Intn(40); {
	case n < 8:
		line := "add " + r.log()
		for range 1 + r.Intn(4) {
			line += fmt.Sprintf(" %s %d", r.key(), r.Intn(3))
		}
		return line
	case n < 9:
		return "put " + r.log() + " " + r.pick(quoted(record("p.example/q", "v1.0.0", r.Intn(2))), "x", `""`)
	case n < 20:
		return "look " + r.client() + " " + r.key() + " " + r.tries() + r.fates()
	case n < 24:
		return "latest " + r.client() + " " + r.tries() + r.fates()
	case n < 28:
		return "merge " + r.client() + " " + r.client() + " " + r.tries() + r.fates()
	case n < 31:
		return "judge " + r.client() + " " + r.client() + " " + r.key()
	case n < 33:
		line := r.pick("crash ", "open ", "crash ") + r.pick("a", "b", "c", "d", "e")
		for range r.Intn(8) * strings.Count(line, "crash") {
			line += fmt.Sprint(" ", r.Intn(300))
		}
		return line
	case n < 35:
		return r.pick("head "+r.log(), "ask "+r.log()+" "+r.request(), "client e "+r.log()+" 100000 2", "log b log.example 32 1 2 1 1000000", "head q")
	}
	return r.wild()
}

func (r walker) request() string {
	return quoted("GET " + r.pick("/latest", "/x", "/lookup/m.example/a@v1.0.0", fmt.Sprintf("/tile/%d/0/000.p/1", r.height)) + " HTTP/1.1\r\nHost: h\r\n\r\n")
}

// wild: what P20.5 leaves out.
func (r walker) wild() string {
	if r.calm {
		return "latest " + r.client() + " 1"
	}
	switch r.Intn(5) {
	case 0:
		return "turn " + r.client() + " " + r.log()
	case 1:
		return fmt.Sprintf("fail %s %d %s", r.pick("a", "c", "d"), r.Intn(9), r.pick("io", "full", "dead"))
	case 2:
		return fmt.Sprintf("spoil %s %d %d", r.client(), r.Intn(3), r.Intn(600))
	}
	return "answer " + r.client() + " " + r.forged()
}

// forged: an answer that a log might give, or none.
func (r walker) forged() string {
	rec := record("m.example/a", "v1.0.0", r.Intn(3))
	text := headText("log.example", 1, rootOf(r.strength, rec))
	body := r.pick(lookupBody(0, rec, signedText("log.example", 1, text)), signedText("log.example", 1, text), text, "x", "")
	return r.pick(quoted(response("200 OK", body)), quoted(response("404 Not Found", body)), `""`, "x")
}

// begin: two logs of one origin and key (of unlike ones, if it is calm), and clients.
func (r walker) begin() []string {
	other := "log.example"
	if r.calm {
		other = "other.example"
	}
	return []string{
		fmt.Sprintf("log a log.example %d %d 2 1 1000000", r.strength, r.height),
		fmt.Sprintf("log b %s %d %d 2 1 1000000", other, r.strength, r.height),
		fmt.Sprintf("client c a 100000 %d", r.Intn(6)),
		fmt.Sprintf("client d b 1000000 %d", r.Intn(3)),
	}
}

func newWalker(seed int64, calm bool) walker {
	r := walker{Rand: rand.New(rand.NewSource(seed)), calm: calm}
	r.strength = []int{32, 32, 0, 1, 2}[r.Intn(5)]
	r.height = []int{1, 1, 2, 3, 8}[r.Intn(5)]
	r.mood = r.pick("", "machines", "judges")
	if calm {
		r.mood = ""
	}
	return r
}

// walk: so many lines in a world and in the book; the script and its story.
func walk(t *testing.T, r walker, steps int, look func(w *world.World, b *book, line, story string)) (script, story string) {
	t.Helper()
	w, b := world.New(), newBook()
	lines := r.begin()
	for range steps {
		lines = append(lines, r.line())
	}
	for _, line := range lines {
		want := b.tell(line)
		got, e := w.Do(line)
		if got != want || e != api.OK {
			t.Fatalf("%s\n%s tells, with %d,\n%swant\n%s", script, line, int(e), got, want)
		}
		script += line + "\n"
		story += got
		look(w, b, line, got)
	}
	return script, story
}

// sameFiles: of all actors, in the world as in the book.
func sameFiles(t *testing.T, w *world.World, b *book, script string) {
	t.Helper()
	for _, name := range []string{"a", "b", "c", "d", "e"} {
		got, e := w.Files(name)
		if b.logs[name] == nil && b.clients[name] == nil {
			if got != nil || e != api.ErrNoSuch {
				t.Fatalf("%s\nFiles(%s) of nobody: %d files, %d", script, name, len(got), int(e))
			}
			continue
		}
		if want := b.files(name); e != api.OK || len(got)+len(want) > 0 && !reflect.DeepEqual(got, want) {
			t.Fatalf("%s\nFiles(%s): %d files, %d; want %d", script, name, len(got), int(e), len(want))
		}
	}
}

func TestRandomLines(t *testing.T) { // P20.1, P20.2, P20.3: against the book, and Run of the whole script and of its tidy form
	seen := map[string]int{}
	for seed := range int64(400) {
		r := newWalker(seed, false)
		so := ""
		script, story := walk(t, r, 40, func(w *world.World, b *book, line, told string) {
			so += line + "\n"
			sameFiles(t, w, b, so)
		})
		for _, line := range strings.Split(story, "\n") {
			words := strings.Fields(line + " . . . .")
			seen[words[0]+" "+words[2]]++
			if words[2] == "error" {
				seen[words[0]+" "+words[2]+" "+words[3]]++
			}
		}
		runs(t, script, story)
		tidy, e := world.Tidy("# first\n\n" + strings.ReplaceAll(script, "\n", "  \n"))
		if e != api.OK {
			t.Fatalf("Tidy: %d", int(e))
		}
		runs(t, tidy, story)
	}
	for _, s := range []string{"look ok", "look error 190", "look error 171", "look error 170", "look error 172", "look error 104", "look error 176", "latest ok", "latest error 176", "merge ok", "merge none", "judge error 180", "judge error 181", "judge error 121", "crash ok", "open ok", "open error 125", "add ok", "add error 125", "add error 132", "look down", "merge down", "head down", "spoil ok", "spoil none", "client taken", "head nobody", "put ok", "put error 115", "fail ok", "fail error 125"} {
		if seen[s] == 0 {
			t.Errorf("the walks never tell %s", s)
		}
	}
}
