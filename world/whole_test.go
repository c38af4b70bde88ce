package world_test

import (
	"fmt"
	"strings"
	"testing"

	"ledger/api"
	"ledger/disk"
	"ledger/server"
	"ledger/store"
	"ledger/world"
)

// kept: what a log has answered ok to: its records by their keys, and their ids.
type kept struct {
	records []string
	ids     map[string]int // by path and version
}

// learn: from an add or put and what it told.
func (k *kept) learn(t *testing.T, line, told string) {
	t.Helper()
	words, _ := lineError(line)
	rest, ids := words[2:], strings.Fields(told)[3:]
	for _, id := range ids {
		var r string
		if words[0] == "add" {
			r = record(textOf(rest[0]), textOf(rest[1]), atoi(rest[2]))
			rest = rest[3:]
		} else {
			r = textOf(rest[0])
			rest = rest[1:]
		}
		key := keyOf(r)
		if have, ok := k.ids[key]; !ok {
			k.ids[key] = len(k.records)
			k.records = append(k.records, r)
		} else if have != atoi(id) {
			t.Errorf("%s tells %s for %s; want %d", line, id, key, have)
		}
		if k.ids[key] != atoi(id) {
			t.Errorf("%s tells %s for %s; want %d", line, id, key, k.ids[key])
		}
	}
}

// keyOf: path and version of a record.
func keyOf(record string) string {
	words := strings.Fields(record)
	return words[0] + " " + words[1]
}

// heldBy: the files have all of these records, and no others if nothing was lost on the way.
func (k *kept) heldBy(t *testing.T, files []disk.File, config store.Config, script string) {
	t.Helper()
	d, e := disk.Load(1<<40, files)
	if e != api.OK {
		t.Fatalf("%s\nLoad: %d", script, int(e))
	}
	s, e := server.Open(d, config)
	if e != api.OK || s.Size() != int64(len(k.records)) {
		t.Fatalf("%s\nOpen: %d", script, int(e))
	}
	for id, r := range k.records {
		body, e := s.Lookup(strings.Replace(keyOf(r), " ", "@", 1))
		if want := fmt.Sprintf("%d\n%s\n", id, r); e != api.OK || !strings.HasPrefix(string(body), want) {
			t.Fatalf("%s\nLookup of record %d: %q, %d; want %q", script, id, body, int(e), want)
		}
	}
}

func newKept() *kept { return &kept{ids: map[string]int{}} }

func TestWhatWasAnsweredLasts(t *testing.T) { // P20.4: behind crashes with all sorts of choices, and in the files
	lasted := 0
	for seed := range int64(120) {
		r := newWalker(seed, true)
		logs := map[string]*kept{"a": newKept(), "b": newKept()}
		origins := map[string]string{"a": "log.example", "b": "other.example"}
		script := ""
		walk(t, r, 40, func(w *world.World, b *book, line, told string) {
			script += line + "\n"
			words := strings.Fields(line)
			k := logs[words[1]]
			switch {
			case strings.HasPrefix(told, "add ") && strings.Contains(told, " ok"), strings.HasPrefix(told, "put ") && strings.Contains(told, " ok"):
				k.learn(t, line, told)
			case words[0] == "crash" && k != nil:
				if told != fmt.Sprintf("crash %s ok %d\n", words[1], len(k.records)) {
					t.Fatalf("%s tells %s; want %d records", script, told, len(k.records))
				}
				lasted++
			}
			for name, k := range logs {
				if files, e := w.Files(name); e == api.OK {
					k.heldBy(t, copied(files), store.Config{Origin: origins[name], Signer: signerText(origins[name], 1), Strength: r.strength, Height: r.height}, script)
				}
			}
		})
	}
	if lasted < 50 {
		t.Errorf("just %d crashes of logs", lasted)
	}
}

func TestWhatWasAnsweredLastsBehindFailures(t *testing.T) { // P20.4: also where acts fail: every crash whose recovery is well has it, with its id
	count := map[string]int{}
	for seed := range int64(150) {
		r := newWalker(seed, false)
		r.mood = "machines"
		logs := map[string]*kept{"a": newKept(), "b": newKept()}
		script := ""
		walk(t, r, 60, func(w *world.World, b *book, line, told string) {
			script += line + "\n"
			words := strings.Fields(line)
			k := logs[words[1]]
			if k == nil || len(strings.Fields(told)) < 3 || strings.Fields(told)[2] != "ok" {
				return
			}
			switch words[0] {
			case "add", "put":
				k.learnSome(t, line, told)
			case "crash", "open":
				count[words[0]]++
				for key, id := range k.ids {
					lookup := "GET /lookup/" + strings.Replace(key, " ", "@", 1) + " HTTP/1.0\r\n\r\n"
					got := textOf(strings.TrimSuffix(strings.TrimPrefix(does(t, w, "ask "+words[1]+" "+quoted(lookup)), "ask "+words[1]+" "), "\n"))
					if !strings.Contains(got, fmt.Sprintf("\r\n\r\n%d\n%s", id, key)) {
						t.Fatalf("%s\n%s has the id %d no longer: %q", script, key, id, got)
					}
				}
			}
		})
	}
	if count["crash"] < 50 || count["open"] < 50 {
		t.Errorf("just %v", count)
	}
}

// learnSome: the ids that were told; records of an append that failed may stand between them.
func (k *kept) learnSome(t *testing.T, line, told string) {
	t.Helper()
	words, _ := lineError(line)
	rest := words[2:]
	for _, id := range strings.Fields(told)[3:] {
		key := ""
		if words[0] == "add" {
			key = textOf(rest[0]) + " " + textOf(rest[1])
			rest = rest[3:]
		} else {
			key = keyOf(textOf(rest[0]))
			rest = rest[1:]
		}
		if have, ok := k.ids[key]; ok && have != atoi(id) {
			t.Errorf("%s tells %s for %s; it was %d", line, id, key, have)
		}
		k.ids[key] = atoi(id)
	}
}

func TestCalmScripts(t *testing.T) { // P20.5: every look at a key that the log has is accepted, and nobody tells a fork
	looks := 0
	for seed := range int64(200) {
		r := newWalker(1000+seed, true)
		logs := map[string]*kept{"a": newKept(), "b": newKept()}
		asks := map[string]string{"c": "a", "d": "b"}
		script := ""
		walk(t, r, 40, func(w *world.World, b *book, line, told string) {
			script += line + "\n"
			words := strings.Fields(line)
			if strings.Contains(told, "fork ") {
				t.Fatalf("%s\ntells %s", script, told)
			}
			if words[0] == "client" && told == "client e ok\n" {
				asks["e"] = words[2]
			}
			if (words[0] == "add" || words[0] == "put") && strings.Contains(told, " ok") {
				logs[words[1]].learn(t, line, told)
			}
			k := logs[asks[words[1]]]
			if words[0] != "look" || k == nil {
				return
			}
			id, ok := k.ids[words[2]+" "+words[3]]
			if !ok {
				return
			}
			looks++
			want := strings.Fields(fmt.Sprintf("look %s ok %d asked", words[1], id))
			if got := strings.Fields(told); strings.Join(got[:5], " ") != strings.Join(want, " ") || !strings.Contains(told, " "+quoted(k.records[id])+"\n") {
				t.Fatalf("%s\ntells %s; want the id %d and %q", script, told, id, k.records[id])
			}
		})
	}
	if looks < 400 {
		t.Errorf("just %d looks at keys that are there", looks)
	}
}
