package world_test

import (
	"fmt"
	"strings"
	"testing"

	"ledger/api"
)

func TestFail(t *testing.T) { // P20.3: which act, and which error; of a log's disk and of a client's
	r := record("m.example/a", "v1.0.0", 1)
	for kind, e := range map[string]api.Errno{"io": api.ErrIO, "full": api.ErrFull, "dead": api.ErrDead} {
		plays(t,
			logLine("a", "log.example", 1), "log a ok\n",
			clientLine("c", "a"), "client c ok\n",
			"fail a 0 "+kind, "fail a ok\n", // no act
			"add a m.example/a v1.0.0 1", "add a ok 0\n",
			"fail c 1 "+kind, "fail c ok\n",
			"latest c 1", failed("latest", "c", e, 1),
			"crash c", "crash c ok 0\n",
			"fail c 4 "+kind, "fail c ok\n",
			"fail c 0 "+kind, "fail c ok\n", // what was named is forgotten
			"latest c 1", latest("c", 1, r),
			"fail a 1 "+kind, "fail a ok\n",
			"add a m.example/a v1.0.0 1", "add a ok 0\n", // a known key needs no act
			"add a m.example/b v1.0.0 1", refused("add a", e),
		)
	}
}

func TestFailOnADeadDisk(t *testing.T) { // P20.3: disk.Fail's error; it may be asked of those that are down
	plays(t,
		logLine("a", "log.example", 1), "log a ok\n",
		"fail a 1 dead", "fail a ok\n",
		"add a m.example/a v1.0.0 1", "add a error 125\n",
		"fail a 1 io", "fail a error 125\n",
		"head a", "head a 0 "+quoted(signed("log.example", 1))+"\n", // the log goes on being asked
		"open a", "open a error 125\n",
		"fail a 1 io", "fail a error 125\n",
		"open a", "open a error 125\n",
		"crash a", "crash a ok 0\n",
		"fail a 1 io", "fail a ok\n",
		"open a", "open a error 124\n",
		"fail a 1 full", "fail a ok\n", // down, but its disk isn't dead
		"open a", "open a error 123\n",
		"head a", "head a down\n",
		"open a", "open a ok 0\n",
		"head a", "head a 0 "+quoted(signed("log.example", 1))+"\n",
	)
}

func TestCrashOfALog(t *testing.T) { // P20.3: the choices tell what is left of an append that failed
	a, b := record("m.example/a", "v1.0.0", 1), record("m.example/b", "v1.0.0", 1)
	sizes := map[string]int{}
	for acts := 1; acts < 30; acts++ {
		for _, choices := range []string{"", " 1", " 2 3", " 9 9 9", " 2147483648", " 3 100 100 100 100"} {
			w := played(t, "log a log.example 32 1 2 1 1000000", "add a m.example/a v1.0.0 1", fmt.Sprintf("fail a %d dead", acts))
			told := does(t, w, "add a m.example/b v1.0.0 1")
			got := does(t, w, "crash a"+choices)
			sizes[told+got]++
			records := []string{a}
			if got == "crash a ok 2\n" {
				records = append(records, b)
			} else if got != "crash a ok 1\n" || told == "add a ok 1\n" {
				t.Fatalf("fail %d, crash%s: %q, %q", acts, choices, told, got)
			}
			tells(t, w, "head a", fmt.Sprintf("head a %d %s\n", len(records), quoted(signed("log.example", 1, records...))))
			tells(t, w, "open a", fmt.Sprintf("open a ok %d\n", len(records)))
			tells(t, w, "crash a 7", fmt.Sprintf("crash a ok %d\n", len(records)))
		}
	}
	if len(sizes) != 3 {
		t.Errorf("the crashes leave %v", sizes)
	}
}

func TestChoicesAreTaken(t *testing.T) { // P20.3: as disk.Crash takes them, in their order
	w := played(t, logLine("a", "log.example", 1), clientLine("c", "a"), "add a m.example/a v1.0.0 1", "look c m.example/a v1.0.0 1")
	b := newBook()
	for _, line := range []string{logLine("a", "log.example", 1), clientLine("c", "a"), "add a m.example/a v1.0.0 1", "look c m.example/a v1.0.0 1"} {
		b.tell(line)
	}
	seen := map[string]int{}
	for _, choices := range []string{"", " 0 32", " 1", " 1 5", " 1 32", " 1 65", " 2 31"} {
		want := b.tell("crash c" + choices)
		tells(t, w, "crash c"+choices, want)
		sameFiles(t, w, b, choices)
		files, _ := w.Files("c")
		seen[fmt.Sprint(len(files))]++
		for _, line := range []string{"look c m.example/a v1.0.0 1"} {
			tells(t, w, line, b.tell(line))
		}
	}
	if len(seen) < 2 {
		t.Errorf("no choice changes which files are left: %v", seen)
	}
}

func TestClientBehindACrash(t *testing.T) { // P20.3: its head lasts, its files may not
	a, b := record("m.example/a", "v1.0.0", 1), record("m.example/b", "v1.0.0", 1)
	plays(t,
		logLine("a", "log.example", 1), "log a ok\n",
		clientLine("c", "a"), "client c ok\n",
		"open c", "open c ok 0\n",
		"add a m.example/a v1.0.0 1", "add a ok 0\n",
		"look c m.example/a v1.0.0 1", found("c", 0, 2, a),
		"open c", "open c ok 1\n",
		"look c m.example/a v1.0.0 1", found("c", 0, 1, a), // the tile is in its files
		"crash c 0", "crash c ok 1\n",
		"look c m.example/a v1.0.0 1", found("c", 0, 2, a), // it was not synced
		"add a m.example/b v1.0.0 1", "add a ok 1\n",
		"fail c 1 dead", "fail c ok\n",
		"latest c 1", failed("latest", "c", api.ErrDead, 2, a),
		"latest c 1", failed("latest", "c", api.ErrDead, 2, a),
		"open c", "open c error 125\n",
		"latest c 1", "latest c down\n",
		"answer c x", "answer c down\n",
		"crash c", "crash c ok 1\n",
		"latest c 1", latest("c", 2, a, b),
	)
}

func TestAClientWhoseFilesAreSpoilt(t *testing.T) { // P20.3: client.New's error as well as cache.Open's puts it down
	w := played(t, logLine("a", "log.example", 1), clientLine("c", "a"), "add a m.example/a v1.0.0 1", "fail c 3 io")
	tells(t, w, "latest c 1", failed("latest", "c", api.ErrIO, 1))
	tells(t, w, "fail c 1 io", "fail c ok\n")
	tells(t, w, "open c", refused("open c", api.ErrIO)) // by the Remove of the file that is left
	tells(t, w, "latest c 1", "latest c down\n")
	tells(t, w, "merge c c 1", "merge c down\n")
	tells(t, w, "spoil c 0 0", "spoil c down\n")
	tells(t, w, "open c", "open c ok 0\n")
	tells(t, w, "latest c 1", latest("c", 1, record("m.example/a", "v1.0.0", 1)))
}

func TestForgedAnswersGoWithTheSession(t *testing.T) { // P20.3: by open and by crash
	for _, line := range []string{"open c", "crash c"} {
		plays(t,
			logLine("a", "log.example", 1), "log a ok\n",
			clientLine("c", "a"), "client c ok\n",
			"answer c x", "answer c ok\n",
			"answer c y", "answer c ok\n",
			line, line+" ok 0\n",
			"latest c 1", latest("c", 1),
			"answer c x", "answer c ok\n",
			"fail c 1 io", "fail c ok\n",
			"open c", "open c error 124\n",
			"open c", "open c ok 0\n",
			"latest c 1", latest("c", 1),
		)
	}
	w := played(t, logLine("a", "log.example", 1), clientLine("c", "a"), clientLine("d", "a"), "answer c x", "open d", "open a", "turn c a")
	tells(t, w, "latest c 1", failed("latest", "c", api.ErrResponse, 1)) // another's open doesn't touch them
}

func TestDownAndBack(t *testing.T) { // P20.3: an actor that is down keeps its disk, its name and its place
	w := cast(t)
	tells(t, w, logLine("log1", "o", 1), "log log1 taken\n")
	tells(t, w, "merge client0 client1 1", "merge client0 down\n")
	tells(t, w, "merge client1 client0 1", "merge client1 down\n")
	tells(t, w, "merge client1 zz 1", "merge client1 nobody\n") // nobody ahead of down
	tells(t, w, "merge zz client1 1", "merge zz nobody\n")
	tells(t, w, "turn client1 log1", "turn client1 ok\n")
	tells(t, w, "judge client1 client1 p v", refused("judge client1", api.ErrAbsent))
	tells(t, w, "crash client1 5", "crash client1 ok 0\n")
	tells(t, w, "latest client1 2", failed("latest", "client1", api.ErrTimeout, 2)) // turned to the log that is down
	tells(t, w, "crash log1", "crash log1 ok 0\n")
	tells(t, w, "latest client1 2", latest("client1", 1))
	for range 3 {
		if got := does(t, w, "open log1"); !strings.HasSuffix(got, " ok 0\n") {
			t.Errorf("open tells %q", got)
		}
	}
}
