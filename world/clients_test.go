package world_test

import (
	"fmt"
	"strings"
	"testing"

	"ledger/api"
	"ledger/world"
)

func TestMadeClients(t *testing.T) { // P20.3: the limit and the room; cache.Open's error ahead of client.New's
	for _, c := range []struct {
		limit, room int
		e           api.Errno
	}{
		{1, 0, api.OK}, {1048576, 4096, api.OK}, {100000, 1, api.OK},
		{0, 0, api.ErrConfig}, {1048577, 0, api.ErrConfig}, {1 << 31, 9, api.ErrConfig}, {100000, 4097, api.ErrArg}, {100000, 9999, api.ErrArg}, {0, 4097, api.ErrArg},
	} {
		w := played(t, logLine("a", "o", 1))
		line := fmt.Sprintf("client c a %d %d", c.limit, c.room)
		if c.e == api.OK {
			tells(t, w, line, "client c ok\n")
			continue
		}
		tells(t, w, line, refused("client c", c.e))
		tells(t, w, "latest c 1", "latest c nobody\n")
		tells(t, w, clientLine("c", "a"), "client c ok\n")
	}
}

func TestClientOfALogThatIsDown(t *testing.T) { // P20.3: it knows the log's key, strength and height all the same
	r := record("m.example/a", "v1.0.0", 1)
	plays(t,
		"log a log.example 32 2 2 7 1000000", "log a ok\n",
		"add a m.example/a v1.0.0 1", "add a ok 0\n",
		"fail a 1 dead", "fail a ok\n",
		"open a", "open a error 125\n",
		"client c a 100000 9", "client c ok\n",
		"latest c 2", failed("latest", "c", api.ErrTimeout, 2),
		"turn c a", "turn c ok\n",
		"crash a", "crash a ok 1\n",
		"look c m.example/a v1.0.0 1", found("c", 0, 2, r),
	)
}

func TestLimitOfAClient(t *testing.T) { // P20.3: the longest answer that it takes
	r := record("m.example/a", "v1.0.0", 1)
	w := played(t, logLine("a", "log.example", 1), "add a m.example/a v1.0.0 1")
	told := does(t, w, "ask a "+quoted("GET /latest HTTP/1.1\r\nHost: ledger\r\n\r\n"))
	size := len(textOf(strings.TrimSuffix(strings.TrimPrefix(told, "ask a "), "\n")))
	does(t, w, fmt.Sprintf("client c a %d 9", size))
	does(t, w, fmt.Sprintf("client d a %d 9", size-1))
	tells(t, w, "latest c 1", latest("c", 1, r))
	tells(t, w, "latest d 1", failed("latest", "d", api.ErrResponse, 1))
}

func TestLookTellsErrorsOfItsKey(t *testing.T) { // P20.3: just the one line, and nothing is asked
	w := played(t, logLine("a", "log.example", 1), clientLine("c", "a"), "answer c x")
	for line, e := range map[string]api.Errno{
		"look c A v1 1": api.ErrModPath, `look c "" v1.0.0 1 x`: api.ErrModPath, "look c m.example/a v1 8": api.ErrVersion, "look c m.example/a/v2 v1.0.0 1": api.ErrVersion, `look c m.example/a "" 1`: api.ErrVersion,
	} {
		tells(t, w, line, refused("look c", e))
	}
	tells(t, w, "look c m.example/a v1.0.0 1", failed("look", "c", api.ErrResponse, 1)) // the forged answer has waited
	tells(t, w, "look c m.example/a v1.0.0 1", failed("look", "c", api.ErrRefused, 1))
}

func TestTurn(t *testing.T) { // P20.3: another log is asked; the verifier and the origin stay
	r := record("m.example/a", "v1.0.0", 1)
	plays(t,
		logLine("a", "log.example", 1), "log a ok\n",
		logLine("b", "log.example", 2), "log b ok\n",
		logLine("d", "other.example", 1), "log d ok\n",
		logLine("e", "log.example", 1), "log e ok\n",
		"add e m.example/a v1.0.0 1", "add e ok 0\n",
		clientLine("c", "a"), "client c ok\n",
		"latest c 1", latest("c", 1),
		"turn c b", "turn c ok\n",
		"latest c 1", failed("latest", "c", api.ErrUnsigned, 1),
		"turn c d", "turn c ok\n",
		"latest c 1", failed("latest", "c", api.ErrUnsigned, 1),
		"turn c e", "turn c ok\n",
		"look c m.example/a v1.0.0 1", found("c", 0, 2, r),
		"turn c a", "turn c ok\n",
		"latest c 1", latest("c", 1, r), // a head of no records: the trusted one stays
		"open c", "open c ok 1\n", // the log that it asks stays as well
		"look c m.example/a v1.0.0 1", failed("look", "c", api.ErrRefused, 1, r),
	)
}

func TestMerge(t *testing.T) { // P20.3: another client's head; of none nothing is asked, nor told
	a, b := record("m.example/a", "v1.0.0", 1), record("m.example/b", "v1.0.0", 1)
	plays(t,
		"log a log.example 32 1 2 1 1000000", "log a ok\n",
		clientLine("c", "a"), "client c ok\n",
		clientLine("d", "a"), "client d ok\n",
		"merge c d 1", "merge c none\n",
		"merge c c 1", "merge c none\n",
		"latest d 1", latest("d", 1),
		"merge c d 1", "merge c none\n", // the head of no records is the one with which it began, without a note
		"add a m.example/a v1.0.0 1", "add a ok 0\n",
		"latest d 1", latest("d", 1, a),
		"merge d c 1", "merge d none\n",
		"merge c d 1", "merge c ok asked 0\n"+head("c", a),
		"merge c c 1", "merge c ok asked 0\n"+head("c", a),
		"add a m.example/b v1.0.0 1", "add a ok 1\n",
		"latest c 1", latest("c", 3, a, b),
		"merge c d 1", "merge c ok asked 0\n"+head("c", a, b),
		"merge d c 1 x", failed("merge", "d", api.ErrTimeout, 2, a),
		"merge d c 2 x", "merge d ok asked 3\n"+head("d", a, b),
	)
}

func TestRoomOfAClientsDisk(t *testing.T) { // P20.3: for all tiles that its cache holds
	w := played(t, "log a log.example 32 8 2 1 1099511627776", clientLine("c", "a"))
	for n := 0; n < 1280; n += 64 {
		line := "add a"
		for i := range 64 {
			line += fmt.Sprintf(" m.example/a v1.%d.0 1", n+i)
		}
		does(t, w, line)
	}
	for again := range 2 {
		for _, id := range []int{0, 300, 600, 900, 1200} {
			got := does(t, w, fmt.Sprintf("look c m.example/a v1.%d.0 1", id))
			if want := fmt.Sprintf("look c ok %d asked 1 ", id); again == 1 && !strings.HasPrefix(got, want) {
				t.Errorf("look at %d tells %s; want %s", id, short(got), want)
			}
		}
	}
	files, _ := w.Files("c")
	total := 0
	for _, f := range files {
		total += len(f.Data)
	}
	if len(files) != 7 || total < 40000 {
		t.Errorf("%d files with %d bytes", len(files), total)
	}
}

func TestSpoil(t *testing.T) { // P20.3: the bits of a cached tile, and what there is none of
	r := []string{record("m.example/a", "v1.0.0", 1), record("m.example/b", "v1.0.0", 1), record("m.example/c", "v1.0.0", 1)}
	w := played(t, "log a log.example 32 1 2 1 1000000", clientLine("c", "a"), "add a m.example/a v1.0.0 1 m.example/b v1.0.0 1 m.example/c v1.0.0 1")
	tells(t, w, "spoil c 0 0", "spoil c none\n")
	tells(t, w, "look c m.example/a v1.0.0 1", found("c", 0, 4, r...))
	byName := func() map[string]string {
		files, _ := w.Files("c")
		out := map[string]string{}
		for _, f := range files {
			out[f.Name] = string(f.Data)
		}
		return out
	}
	order := []string{"cache/c/tile/1/1/000.p/1", "cache/c/tile/1/0/000", "cache/c/tile/1/0/001.p/1"} // the plan's
	for n, name := range order {
		size := len(byName()[name])
		for _, bit := range []int{0, 1, 7, 8, 9, 63, 8*size - 1} {
			want := byName()
			changed := []byte(want[name])
			changed[bit/8] ^= 1 << (bit % 8)
			want[name] = string(changed)
			tells(t, w, fmt.Sprintf("spoil c %d %d", n, bit), "spoil c ok\n")
			if got := byName(); fmt.Sprint(got) != fmt.Sprint(want) {
				t.Errorf("spoil c %d %d changes other bits", n, bit)
			}
			tells(t, w, fmt.Sprintf("spoil c %d %d", n, bit), "spoil c ok\n")
		}
		for _, bit := range []int{8 * size, 8*size + 1, 9999, 1 << 31} {
			tells(t, w, fmt.Sprintf("spoil c %d %d", n, bit), "spoil c none\n")
		}
	}
	tells(t, w, "spoil c 3 0", "spoil c none\n")
	tells(t, w, "spoil c 9999 0", "spoil c none\n")
	tells(t, w, "look c m.example/a v1.0.0 1", found("c", 0, 1, r...))
	tells(t, w, "spoil c 1 0", "spoil c ok\n")
	tells(t, w, "look c m.example/a v1.0.0 1", found("c", 0, 4, r...))
}

func TestSpoilTellsErrorsOfTheDisk(t *testing.T) { // P20.3: Read's, then that there is no such byte, then Write's
	w := played(t, logLine("a", "log.example", 1), clientLine("c", "a"), "add a m.example/a v1.0.0 1", "look c m.example/a v1.0.0 1")
	tells(t, w, "fail c 1 io", "fail c ok\n")
	tells(t, w, "spoil c 0 256", "spoil c none\n") // no act
	tells(t, w, "spoil c 1 0", "spoil c none\n")
	tells(t, w, "spoil c 0 0", refused("spoil c", api.ErrIO))
	tells(t, w, "spoil c 0 0", "spoil c ok\n")
	tells(t, w, "fail c 1 dead", "fail c ok\n")
	tells(t, w, "spoil c 0 0", refused("spoil c", api.ErrDead))
	tells(t, w, "spoil c 0 256", refused("spoil c", api.ErrDead)) // by Read now
	tells(t, w, "spoil c 1 0", "spoil c none\n")
}

func TestForks(t *testing.T) { // P20.3: of unlike sizes, both ways: with the root that was found and the proof
	a := []string{record("m.example/a", "v1.0.0", 1)}
	b := []string{record("m.example/a", "v1.0.0", 2), record("m.example/b", "v1.0.0", 1), record("m.example/c", "v1.0.0", 1)}
	w := played(t, logLine("a", "log.example", 1), logLine("b", "log.example", 1), clientLine("c", "a"), clientLine("d", "b"),
		"add a m.example/a v1.0.0 1", "add b m.example/a v1.0.0 2 m.example/b v1.0.0 1 m.example/c v1.0.0 1", "latest c 1", "latest d 1")
	fork := func(name string) string {
		return "fork " + name + " " + quoted(signed("log.example", 1, a...)) + " " + quoted(signed("log.example", 1, b...)) + " " + inHex(rootOf(32, b[0])) + " 0 " + inHex(rootOf(32, b[1])) + " " + inHex(rootOf(32, b[2])) + "\n"
	}
	tells(t, w, "turn c b", "turn c ok\n")
	tells(t, w, "merge c d 1", failed("merge", "c", api.ErrFork, 1, a...)+fork("c"))
	tells(t, w, "latest c 1", failed("latest", "c", api.ErrFork, 2, a...)+fork("c"))
	tells(t, w, "look c m.example/a v1.0.0 1", failed("look", "c", api.ErrFork, 2, a...)+fork("c"))
	tells(t, w, "merge d c 1", failed("merge", "d", api.ErrFork, 1, b...)+fork("d"))
	tells(t, w, "judge c d m.example/a v1.0.0", refused("judge c", api.ErrAbsent))
}

func TestForgedHeads(t *testing.T) { // P20.3: answers that wait are taken in their order, one a request
	r := record("m.example/a", "v1.0.0", 1)
	other := record("m.example/a", "v1.0.0", 2)
	w := played(t, logLine("a", "log.example", 1), clientLine("c", "a"), "add a m.example/a v1.0.0 1")
	for _, s := range []string{response("200 OK", "no note"), response("500 No", ""), "", response("200 OK", signed("log.example", 1, other))} {
		tells(t, w, "answer c "+quoted(s), "answer c ok\n")
	}
	tells(t, w, "latest c 1", failed("latest", "c", api.ErrNote, 1))
	tells(t, w, "latest c 1", failed("latest", "c", api.ErrRefused, 1))
	tells(t, w, "latest c 1", failed("latest", "c", api.ErrTimeout, 1))
	tells(t, w, "latest c 1", latest("c", 1, other))
	tells(t, w, "latest c 1", failed("latest", "c", api.ErrFork, 1, other)+"fork c "+quoted(signed("log.example", 1, other))+" "+quoted(signed("log.example", 1, r))+" "+inHex(rootOf(32, r))+" 0\n")
}

func TestAnswersWaitForTheirClient(t *testing.T) { // P20.3: another one's requests don't take them
	w := played(t, logLine("a", "log.example", 1), clientLine("c", "a"), clientLine("d", "a"), "answer c x")
	tells(t, w, "latest d 1", latest("d", 1))
	tells(t, w, "latest c 1", failed("latest", "c", api.ErrResponse, 1))
	tells(t, w, "latest c 1", latest("c", 1))
}

func TestFilesOfActors(t *testing.T) { // P20.3: down or not; it is no line
	w := world.New()
	if f, e := w.Files("a"); f != nil || e != api.ErrNoSuch {
		t.Errorf("Files in an empty world: %v, %d", f, int(e))
	}
	w = cast(t)
	for name, want := range map[string]int{"log0": 1, "client0": 0, "log1": 0, "client1": 0} {
		if f, e := w.Files(name); len(f) != want || e != api.OK {
			t.Errorf("Files(%s): %v, %d; want %d", name, f, int(e), want)
		}
	}
	for _, name := range []string{"", "log", "log00", "LOG0", "zz", "\n", "log0 "} {
		if f, e := w.Files(name); f != nil || e != api.ErrNoSuch {
			t.Errorf("Files(%q): %v, %d", name, f, int(e))
		}
	}
	files, _ := w.Files("log0")
	if files[0].Name != "head" || string(files[0].Data) != signed("o", 1) {
		t.Errorf("Files(log0): %q", files)
	}
	does(t, w, "add log0 m.example/a v1.0.0 1")
	does(t, w, "latest client0 1")
	files, _ = w.Files("client0")
	if len(files) != 1 || files[0].Name != "cache/c/head" || string(files[0].Data) != signed("o", 1, record("m.example/a", "v1.0.0", 1)) {
		t.Errorf("Files(client0): %q", files)
	}
}
