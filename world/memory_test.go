package world_test

import (
	"reflect"
	"strings"
	"sync"
	"testing"

	"ledger/api"
	"ledger/disk"
	"ledger/world"
)

// spoilFiles: overwrites all that Files answered, the room behind it too.
func spoilFiles(files []disk.File) {
	for i := range files {
		data := files[i].Data[:cap(files[i].Data)]
		for j := range data {
			data[j] ^= 0xff
		}
	}
	files = files[:cap(files)]
	for i := range files {
		files[i] = disk.File{Name: "spoilt"}
	}
}

// copied: files that share nothing with what was answered.
func copied(files []disk.File) []disk.File {
	out := make([]disk.File, len(files))
	for i, f := range files {
		out[i] = disk.File{Name: f.Name, Data: append([]byte{}, f.Data...)}
	}
	return out
}

func TestFilesAreNewMemory(t *testing.T) { // P0.2: two answers share none, nor does the world's disk
	w := played(t, logLine("a", "log.example", 1), clientLine("c", "a"), "add a m.example/a v1.0.0 1", "look c m.example/a v1.0.0 1")
	r := record("m.example/a", "v1.0.0", 1)
	for _, name := range []string{"a", "c"} {
		first, _ := w.Files(name)
		second, _ := w.Files(name)
		want := copied(first)
		spoilFiles(first)
		if !reflect.DeepEqual(second, want) {
			t.Errorf("two answers of Files(%s) share memory", name)
		}
		third, _ := w.Files(name)
		if !reflect.DeepEqual(third, want) {
			t.Errorf("Files(%s) shares memory with the disk", name)
		}
		spoilFiles(second)
	}
	tells(t, w, "open a", "open a ok 1\n")
	tells(t, w, "open c", "open c ok 1\n")
	tells(t, w, "look c m.example/a v1.0.0 1", found("c", 0, 1, r))
	kept, _ := w.Files("a")
	want := copied(kept)
	does(t, w, "add a m.example/b v1.0.0 1")
	does(t, w, "crash a 1 2 3")
	if !reflect.DeepEqual(kept, want) {
		t.Error("later lines are seen in an earlier answer of Files")
	}
}

func TestFilesChangesNothing(t *testing.T) { // P20.3, P0.2: it is no line, and no act
	script, story := walk(t, newWalker(5, false), 60, func(w *world.World, b *book, line, told string) {})
	w := world.New()
	got := ""
	for _, line := range linesOf(script) {
		for _, name := range []string{"a", "b", "c", "d", "e", "q"} {
			files, _ := w.Files(name)
			spoilFiles(files)
		}
		got += does(t, w, line)
	}
	if got != story {
		t.Error("a world tells another story when its files are looked at")
	}
}

func TestSameScriptSameStory(t *testing.T) { // P0.2, P20.2: many times, at one time too
	script, story := walk(t, newWalker(11, false), 80, func(w *world.World, b *book, line, told string) {})
	tidy, _ := world.Tidy(script)
	var all sync.WaitGroup
	for range 8 {
		all.Go(func() {
			for range 3 {
				if got, e := world.Run(script); got != story || e != api.OK {
					t.Errorf("Run tells another story, with %d", int(e))
				}
				if got, e := world.Tidy(script); got != tidy || e != api.OK {
					t.Errorf("Tidy answers other bytes, with %d", int(e))
				}
				if n, e := world.Check(script + "x"); n != strings.Count(script, "\n") || e != api.ErrScript {
					t.Errorf("Check = %d, %d", n, int(e))
				}
			}
		})
	}
	all.Wait()
}

func TestWorldsKnowNothingOfOneAnother(t *testing.T) { // P20.3, P0.2: lines of two worlds by turns, and of many at one time
	scripts, stories := make([]string, 6), make([]string, 6)
	for i := range scripts {
		scripts[i], stories[i] = walk(t, newWalker(int64(100+i), false), 50, func(w *world.World, b *book, line, told string) {})
	}
	worlds, told := make([]*world.World, len(scripts)), make([]string, len(scripts))
	for i := range worlds {
		worlds[i] = world.New()
	}
	for n := range 54 {
		for i, w := range worlds {
			told[i] += does(t, w, linesOf(scripts[i])[n])
		}
	}
	if !reflect.DeepEqual(told, stories) {
		t.Error("worlds that are played by turns tell other stories")
	}
	var all sync.WaitGroup
	for i := range scripts {
		all.Go(func() {
			w, got := world.New(), ""
			for _, line := range linesOf(scripts[i]) {
				s, _ := w.Do(line)
				got += s
			}
			if got != stories[i] {
				t.Error("worlds that are played at one time tell other stories")
			}
		})
	}
	all.Wait()
	w := world.New()
	tells(t, w, "head a", "head a nobody\n")
}

func TestLinesAreNotKept(t *testing.T) { // P0.2: a line that is built in memory that is used again
	r := record("m.example/a", "v1.0.0", 1)
	w := world.New()
	buffer := make([]byte, 0, 256)
	say := func(line, want string) {
		t.Helper()
		buffer = append(buffer[:0], line...)
		tells(t, w, string(buffer), want)
		for i := range buffer {
			buffer[i] = '#'
		}
	}
	say(logLine("a", "log.example", 1), "log a ok\n")
	say(clientLine("c", "a"), "client c ok\n")
	say("add a m.example/a v1.0.0 1", "add a ok 0\n")
	say("answer c x", "answer c ok\n")
	say("look c m.example/a v1.0.0 1", failed("look", "c", api.ErrResponse, 1))
	say("look c m.example/a v1.0.0 1", found("c", 0, 2, r))
}
