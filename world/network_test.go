package world_test

import (
	"fmt"
	"math/rand"
	"strings"
	"testing"

	"ledger/api"
	"ledger/world"
)

func TestOneExchange(t *testing.T) { // P20.3: what the fates of a request and of its answers leave of it
	for _, c := range []struct {
		line  string // TRIES and fates
		e     api.Errno
		asked int
	}{
		{"1", api.OK, 1}, {"8", api.OK, 1}, {"1 d d", api.OK, 1}, {"1 2*d", api.OK, 1},
		{"1 x", api.ErrTimeout, 1}, {"1 d x", api.ErrTimeout, 1}, {"2 x", api.OK, 2}, {"2 d x", api.OK, 2}, {"2 x x", api.ErrTimeout, 2}, {"2 x d x", api.ErrTimeout, 2}, {"3 x d x", api.OK, 3},
		{"8 7*x", api.OK, 8}, {"8 8*x", api.ErrTimeout, 8}, {"8 100*x 100*x", api.ErrTimeout, 8}, {"7 7*x", api.ErrTimeout, 7},
		{"1 l8", api.OK, 1}, {"1 l9", api.ErrTimeout, 1}, {"1 d l8", api.OK, 1}, {"1 d l9", api.ErrTimeout, 1}, {"1 l4 l4", api.OK, 1}, {"1 l4 l5", api.ErrTimeout, 1}, {"1 l8 l0", api.OK, 1}, {"1 l8 l1", api.ErrTimeout, 1}, {"1 l1000", api.ErrTimeout, 1},
		{"2 l9 x", api.OK, 2},              // the first request comes in the second try
		{"2 d l9 x", api.OK, 2},            // the first answer comes in the second try
		{"2 l17 x", api.OK, 2},             // in its last tick
		{"2 l18 x", api.ErrTimeout, 2},     // and behind it
		{"3 l18 x x", api.OK, 3},           // a third try waits for it again
		{"2 l4 l5 x", api.OK, 2},           // the time goes on from try to try
		{"1 b0", api.OK, 1},                // two at once: the first answer is the answer
		{"1 b3 x", api.OK, 1},              // the second copy is answered
		{"1 b9 x", api.ErrTimeout, 1},      // it comes too late
		{"1 d b1", api.OK, 1},              //
		{"1 c0", api.ErrTimeout, 1},        // a request of no bytes is there, and has no answer
		{"1 c10", api.ErrTimeout, 1},       // a cut one has none either
		{"2 c10", api.OK, 2},               //
		{"1 d c0", api.ErrTimeout, 1},      // an answer of no bytes is none
		{"2 d c0", api.OK, 2},              //
		{"1 d c1", api.ErrResponse, 1},     //
		{"2 d c1", api.ErrResponse, 1},     // it is the answer, whatever it is
		{"1 b0 c0 d", api.OK, 1},           // the first that isn't empty
		{"1 b0 c1 d", api.ErrResponse, 1},  // the second is let go
		{"1 b0 d c1", api.OK, 1},           //
		{"1 b1 l1 c1", api.OK, 1},          // both come at tick 1: the one that was on its way is first
		{"1 b1 l2 c1", api.ErrResponse, 1}, //
		{"1 s0", api.ErrRefused, 1},        // FET is no method
		{"1 d s0", api.ErrResponse, 1},     //
		{"1 c1048576 s1048576", api.OK, 1},
	} {
		w := played(t, logLine("a", "log.example", 1), clientLine("c", "a"))
		want := latest("c", c.asked)
		if c.e != api.OK {
			want = failed("latest", "c", c.e, c.asked)
		}
		tells(t, w, "latest c "+c.line, want)
		tells(t, w, "latest c 1", latest("c", 1)) // nothing is left of it
	}
}

func TestFatesGoOnFromExchangeToExchange(t *testing.T) { // P20.3: each message that is sent takes one, those that come too late to count too
	r := record("m.example/a", "v1.0.0", 1)
	for _, c := range []struct {
		line  string
		ok    bool
		asked int
	}{
		{"1 d d x", false, 2}, {"1 d d d x", false, 2}, {"1 4*d x", true, 2}, {"2 d d x", true, 3}, {"2 d x d d x", true, 4}, {"2 x d d x", true, 4}, {"1 x", false, 1},
		{"1 b0 d d x", false, 2}, {"1 b8 d d x", false, 2}, {"1 b9 d x", false, 2}, {"1 b9 d d x", false, 2}, {"1 b9 d d d x", true, 2}, {"1 b8 5*d x", true, 2}, {"1 b8 d d d x", false, 2},
		{"1 d b3 x", false, 2}, {"1 d b3 d x", false, 2}, // a doubled answer is one message
		{"1 c0 x", false, 1}, {"2 c0 d d x", true, 4}, {"2 c0 3*d x", true, 4}, {"2 c0 4*d x", true, 3}, // no answer, no fate
		{"2 l9 d d d x", true, 4}, // in the second try two requests are there, and both answers take a fate
	} {
		w := played(t, logLine("a", "log.example", 1), clientLine("c", "a"), "add a m.example/a v1.0.0 1")
		want := found("c", 0, c.asked, r)
		if !c.ok {
			want = failed("look", "c", api.ErrTimeout, c.asked)
		}
		tells(t, w, "look c m.example/a v1.0.0 "+c.line, want)
	}
}

func TestForgedAnswersAndFates(t *testing.T) { // P20.3: each request that comes takes one, at its time; what is not taken waits on
	r := record("m.example/a", "v1.0.0", 1)
	left := func(line string, forged int, want string, still int) {
		t.Helper()
		w := played(t, logLine("a", "log.example", 1), clientLine("c", "a"), "add a m.example/a v1.0.0 1", "turn c a")
		for range forged {
			does(t, w, "answer c "+quoted(response("500 No", "")))
		}
		tells(t, w, "look c m.example/a v1.0.0 "+line, want)
		for range still {
			tells(t, w, "latest c 1", failed("latest", "c", api.ErrRefused, 1, recordsAtHead(want, r)...))
		}
		tells(t, w, "latest c 1", latest("c", 1, r))
	}
	no := failed("look", "c", api.ErrRefused, 1)
	left("1", 0, found("c", 0, 2, r), 0)
	left("1", 1, no, 0)
	left("1", 3, no, 2)
	left("1 b0", 3, no, 1)
	left("1 b8", 3, no, 1)
	left("1 b9", 3, no, 2)
	left("1 x", 3, failed("look", "c", api.ErrTimeout, 1), 3)
	left("1 d x", 3, failed("look", "c", api.ErrTimeout, 1), 2)
	left("2 d x", 1, found("c", 0, 3, r), 0)
	left("1 c0", 3, no, 2)                       // a request of no bytes is answered by a forged answer all the same
	left("1 b3 l5 d", 1, found("c", 0, 2, r), 0) // the log's answer to the second copy comes ahead of the forged one
}

// recordsAtHead: of a story whose head is that of no records, or of this one.
func recordsAtHead(story, r string) []string {
	if strings.Contains(story, "head c 0 ") {
		return nil
	}
	return []string{r}
}

func TestALogThatIsDownAnswersNothing(t *testing.T) { // P20.3: but forged answers come
	w := played(t, logLine("a", "log.example", 1), clientLine("c", "a"), "fail a 1 dead")
	does(t, w, "open a")
	tells(t, w, "latest c 3", failed("latest", "c", api.ErrTimeout, 3))
	does(t, w, "answer c "+quoted(response("200 OK", signed("log.example", 1))))
	tells(t, w, "latest c 3", latest("c", 1))
	tells(t, w, "latest c 3 b1", failed("latest", "c", api.ErrTimeout, 3))
}

func TestAShutLogAnswers(t *testing.T) { // P20.3: one whose append failed is not down
	r := record("m.example/a", "v1.0.0", 1)
	plays(t,
		logLine("a", "log.example", 1), "log a ok\n",
		clientLine("c", "a"), "client c ok\n",
		"add a m.example/a v1.0.0 1", "add a ok 0\n",
		"fail a 2 io", "fail a ok\n",
		"add a m.example/b v1.0.0 1", "add a error 124\n",
		"add a m.example/b v1.0.0 1", "add a error 132\n",
		"look c m.example/a v1.0.0 1", found("c", 0, 2, r),
		"head a", "head a 1 "+quoted(signed("log.example", 1, r))+"\n",
		"open a", "open a ok 1\n",
		"add a m.example/b v1.0.0 1", "add a ok 1\n",
	)
}

// manyLines: a log of 4095 records, and a client whose look wants 33 tiles at once.
func manyLines() []string {
	lines := []string{"log a log.example 32 1 2 1 1099511627776", "client c a 100000 0", "add a m.example/x v1.0.0 1", "latest c 1"}
	for n := 1; n < 4095; {
		line := "add a"
		for i := 0; i < 64 && n < 4095; i++ {
			line += fmt.Sprintf(" m.example/a v1.%d.0 1", n)
			n++
		}
		lines = append(lines, line)
	}
	return lines
}

const manyLook = "look c m.example/a v1.1365.0 "

func TestMoreThanThirtyTwoAtOnce(t *testing.T) { // P20.3: 32 are gone about first, with a net of their own
	lines := manyLines()
	for _, c := range []struct {
		line  string
		asked int
		ok    bool
	}{
		{"1", 34, true}, {"1 68*d x", 34, true}, // two of the lookup, 64 of the first tiles, two of the last
		{"1 67*d x", 34, false}, {"1 66*d x", 34, false}, {"1 65*d x", 33, false}, {"1 2*d x", 33, false}, {"1 33*d x", 33, false}, {"1 34*d x", 33, false}, {"1 d x", 1, false},
		{"2 67*d x", 35, true}, {"2 66*d x", 35, true}, {"2 65*d x", 35, true}, {"2 33*d x", 35, true}, {"2 33*d x x", 36, true}, {"2 2*d 32*x", 66, true}, {"2 2*d 33*x", 65, false}, {"3 2*d 33*x", 67, true},
	} {
		w := played(t, lines...)
		got := does(t, w, manyLook+c.line)
		begin := fmt.Sprintf("look c error 190 asked %d\nhead c 1 ", c.asked)
		if c.ok {
			begin = fmt.Sprintf("look c ok 1365 asked %d %s\nhead c 4095 ", c.asked, quoted(record("m.example/a", "v1.1365.0", 1)))
		}
		if !strings.HasPrefix(got, begin) {
			t.Errorf("%s tells %s; want %s", c.line, short(got), short(begin))
		}
	}
}

func TestManyAtOnceAgainstTheBook(t *testing.T) { // P20.3: the order in which lanes are served and asked, by random fates and forged answers
	r := walker{Rand: rand.New(rand.NewSource(7)), strength: 32, height: 1}
	w, b := world.New(), newBook()
	same := func(line string) string {
		t.Helper()
		want := b.tell(line)
		tells(t, w, line, want)
		return want
	}
	for i, line := range manyLines() {
		same(line)
		for n := range 16 {
			switch i {
			case 1:
				same(fmt.Sprintf("client c%d a 100000 0", n))
			case 2:
				same(fmt.Sprintf("latest c%d 1", n))
			}
		}
	}
	looks, well := 0, 0 // a client whose look is well has the greater head, and wants less
	for looks < 100 && well < 15 {
		name := fmt.Sprint("c", well)
		for range r.Intn(3) {
			same("answer " + name + " " + r.pick(quoted(response("500 No", "")), `""`))
		}
		look := fmt.Sprintf("look %s m.example/a v1.1365.0 %s %s", name, r.pick("1", "2", "3", "8"), r.pick("d", "b1", "b8"))
		for range r.Intn(30) {
			look += " " + r.pick("", "5*", "10*") + r.pick("d", "d", "l3", "l8", "b2", "b9", "x", "c0", "l9", "l20")
		}
		if strings.Contains(same(look), " ok 1365") {
			well++
		}
		looks++
	}
	if b.sizes["true"] < 15 || well < 5 {
		t.Errorf("of %d looks %d are well, and %d times more than 32 are wanted", looks, well, b.sizes["true"])
	}
}
