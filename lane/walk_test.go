package lane_test

import (
	"fmt"
	"math"
	"math/rand"
	"slices"
	"strings"
	"testing"

	"ledger/api"
	"ledger/lane"
)

// deed: a call.
type deed struct {
	kind    string // send, wait, any, pass, close
	lane    int
	lanes   []int
	ticks   int
	message string
}

// play: the call's answer as a text.
func play(n *lane.Net, a deed) string {
	switch a.kind {
	case "send":
		return fmt.Sprint(int(n.Send(a.lane, []byte(a.message))))
	case "wait":
		b, e := n.Wait(a.lane, a.ticks)
		return fmt.Sprintf("%q %d", b, int(e))
	case "any":
		i, b, e := n.Any(a.lanes, a.ticks)
		return fmt.Sprintf("%d %q %d", i, b, int(e))
	case "pass":
		return fmt.Sprint(int(n.Pass(a.ticks)))
	}
	return fmt.Sprint(int(n.Close(a.lane)))
}

// playBook: the answer that the book gives.
func playBook(b *book, a deed) string {
	switch a.kind {
	case "send":
		return fmt.Sprint(int(b.send(a.lane, a.message)))
	case "wait":
		s, e := b.waitFor(a.lane, a.ticks)
		return fmt.Sprintf("%q %d", s, int(e))
	case "any":
		i, s, e := b.any(a.lanes, a.ticks)
		return fmt.Sprintf("%d %q %d", i, s, int(e))
	case "pass":
		return fmt.Sprint(int(b.pass(a.ticks)))
	}
	return fmt.Sprint(int(b.shut(a.lane)))
}

// agree: the net tells of its time and of its lanes what the book tells.
func agree(t *testing.T, n *lane.Net, b *book) {
	t.Helper()
	if n.Now() != b.now {
		t.Errorf("Now = %d; want %d", n.Now(), b.now)
	}
	for on := -1; on <= len(b.wait); on++ {
		got, ge := n.Waiting(on)
		if right, e := b.waiting(on); got != right || ge != e {
			t.Errorf("Waiting(%d) = %d, %d; want %d, %d", on, got, int(ge), right, int(e))
		}
	}
}

// follow: the net does these deeds as the book has them; true, if it does. It counts in met what was answered, by kind of call and number, and full lanes.
func follow(t *testing.T, met map[string]int, lanes int, fates []lane.Fate, deeds []deed) bool {
	t.Helper()
	n, b := made(t, lanes, fates...), newBook(lanes, fates)
	for i, a := range deeds {
		got, right := play(n, a), playBook(b, a)
		if got != right {
			t.Errorf("%+v answers %s; want %s", a, got, right)
		}
		met[a.kind+" "+got[strings.LastIndexByte(got, ' ')+1:]]++
		if slices.ContainsFunc(b.wait, func(w []string) bool { return len(w) == lane.Room }) {
			met["full"]++
		}
		agree(t, n, b)
		if t.Failed() {
			t.Errorf("behind %v, %+v", fates, deeds[:i])
			return false
		}
	}
	return true
}

func pick[T any](r *rand.Rand, list ...T) T { return list[r.Intn(len(list))] }

func anyLane(r *rand.Rand, lanes int) int {
	if r.Intn(40) == 0 {
		return pick(r, -1, lanes, 64, math.MinInt, math.MaxInt)
	}
	return r.Intn(lanes)
}

func anyTicks(r *rand.Rand) int {
	if r.Intn(40) == 0 {
		return pick(r, -1, 65537, math.MinInt, math.MaxInt)
	}
	return r.Intn(5)
}

func anyLanes(r *rand.Rand, lanes int) []int {
	if r.Intn(60) == 0 {
		return make([]int, 63+r.Intn(4))
	}
	out := r.Perm(lanes)[:r.Intn(lanes+1)]
	if r.Intn(12) == 0 {
		out = append(out, anyLane(r, lanes))
	}
	return out
}

func anyFates(r *rand.Rand) []lane.Fate {
	var out []lane.Fate
	for range r.Intn(150) {
		out = append(out, fate(r.Intn(6), r.Intn(6)))
	}
	return out
}

// anyDeeds: a run of calls; where many are sent, lanes fill.
func anyDeeds(r *rand.Rand, lanes, count, sent int) []deed {
	var out []deed
	for i := range count {
		a := deed{lane: anyLane(r, lanes), ticks: anyTicks(r)}
		switch k := r.Intn(100); {
		case k < sent:
			a.kind, a.message = "send", fmt.Sprintf("%c%d", 'a'+i%26, i)[:r.Intn(3)]
		case k < sent+2:
			a.kind = "close"
		case k < sent+8:
			a.kind = "pass"
		case k%2 == 0:
			a.kind, a.lanes = "any", anyLanes(r, lanes)
		default:
			a.kind = "wait"
		}
		out = append(out, a)
	}
	return out
}

// story: a long run of calls, and all that was answered on the way.
func story(seed int64) string {
	var s strings.Builder
	r := rand.New(rand.NewSource(seed))
	lanes := 1 + r.Intn(6)
	n, e := lane.New(lanes, anyFates(r))
	fmt.Fprintln(&s, int(e))
	for _, a := range anyDeeds(r, lanes, 300, 70) {
		count, _ := n.Waiting(0)
		fmt.Fprintln(&s, play(n, a), n.Now(), count)
	}
	return s.String()
}

func TestWalks(t *testing.T) { // P19.1 to P19.4, P0.1: any calls, against the book
	met := map[string]int{}
	for seed := range 600 {
		r := rand.New(rand.NewSource(int64(seed)))
		lanes := 1 + r.Intn(5)
		if seed%100 == 0 {
			lanes = 64
		}
		if !follow(t, met, lanes, anyFates(r), anyDeeds(r, lanes, 250, pick(r, 30, 50, 90))) {
			t.Fatalf("seed %d", seed)
		}
	}
	for _, k := range []string{"send 0", "send 191", "send 192", "wait 0", "wait 1", "wait 190", "wait 191", "wait 192", "any 0", "any 1", "any 190", "any 191", "any 192", "any 2", "pass 0", "pass 1", "close 0", "close 191", "close 192", "full"} {
		if met[k] < 5 {
			t.Errorf("%q was met %d times", k, met[k])
		}
	}
}

func TestSmallRuns(t *testing.T) { // P19.1 to P19.4: three messages of any small fates, each on one of two lanes, with a tick behind it or none; the first lane closed behind them or not
	fates := []lane.Fate{fate(lane.Deliver, 0), fate(lane.Drop, 0), fate(lane.Cut, 1), fate(lane.Spoil, 1)}
	for late := range 3 {
		fates = append(fates, fate(lane.Double, late), fate(lane.Delay, late))
	}
	for _, x := range fates {
		for _, y := range fates {
			for _, z := range fates {
				for way := range 128 {
					if !follow(t, map[string]int{}, 2, []lane.Fate{x, y, z}, smallRun(way)) {
						t.FailNow()
					}
				}
			}
		}
	}
}

// smallRun: of way's seven bits three tell the messages' lanes, three the ticks behind them, and one whether lane 0 is closed.
func smallRun(way int) []deed {
	var deeds []deed
	for i, m := range []string{"ab", "cd", "ef"} {
		deeds = append(deeds, deed{kind: "send", lane: way >> i & 1, message: m}, deed{kind: "pass", ticks: way >> (3 + i) & 1})
	}
	if way>>6 == 1 {
		deeds = append(deeds, deed{kind: "close"})
	}
	for range 4 {
		deeds = append(deeds, deed{kind: "wait", ticks: 1}, deed{kind: "any", lanes: []int{1, 0}})
	}
	return deeds
}

func TestLanesAreApart(t *testing.T) { // P19.2: a lane gives what it would give alone, if its messages had the same fates at the same times
	for seed := range 300 {
		r := rand.New(rand.NewSource(int64(seed)))
		lanes := 2 + r.Intn(4)
		fates := anyFates(r)
		deeds := anyDeeds(r, lanes, 250, pick(r, 40, 90))
		for on := range lanes {
			one, other := beside(t, lanes, on, fates, deeds), alone(t, lanes, on, fates, deeds)
			if one != other {
				t.Fatalf("seed %d: lane %d beside others\n%s; alone\n%s", seed, on, one, other)
			}
		}
	}
}

// beside: what one lane of a whole run tells behind each call.
func beside(t *testing.T, lanes, on int, fates []lane.Fate, deeds []deed) string {
	var s strings.Builder
	n := made(t, lanes, fates...)
	for _, a := range deeds {
		before, _ := n.Waiting(on)
		told := ""
		switch a.kind {
		case "send", "close", "wait":
			if answer := play(n, a); a.lane == on {
				told = answer
			}
		case "any":
			if i, b, e := n.Any(a.lanes, a.ticks); e == api.OK && i == on {
				told = fmt.Sprintf("%q", b)
			}
		default:
			play(n, a)
		}
		after, _ := n.Waiting(on)
		fmt.Fprintln(&s, told, before, after, n.Now())
	}
	return s.String()
}

// alone: the same of a net on which this lane alone is used; what the rest of the run does for it, that time goes by and that a message is taken, is done by hand.
func alone(t *testing.T, lanes, on int, fates []lane.Fate, deeds []deed) string {
	var s strings.Builder
	whole := made(t, lanes, fates...)
	n := made(t, 1, fatesOn(on, lanes, fates, deeds)...)
	for _, a := range deeds {
		before, _ := n.Waiting(0)
		now := whole.Now()
		told := ""
		taken := takenFrom(whole, a)
		mine := a
		mine.lane = 0
		switch {
		case a.lane == on && (a.kind == "send" || a.kind == "close" || a.kind == "wait"):
			told = play(n, mine)
		case a.kind == "any" && taken == on:
			n.Pass(whole.Now() - now)
			b, _ := n.Wait(0, 0)
			told = fmt.Sprintf("%q", b)
		default:
			n.Pass(whole.Now() - now)
		}
		after, _ := n.Waiting(0)
		fmt.Fprintln(&s, told, before, after, n.Now())
	}
	return s.String()
}

// takenFrom plays the call; it tells the lane from which Any takes a message, or -1.
func takenFrom(n *lane.Net, a deed) int {
	if a.kind != "any" {
		play(n, a)
		return -1
	}
	if on, _, e := n.Any(a.lanes, a.ticks); e == api.OK {
		return on
	}
	return -1
}

// fatesOn: those that the messages of one lane take in a whole run, by the book.
func fatesOn(on, lanes int, fates []lane.Fate, deeds []deed) []lane.Fate {
	b := newBook(lanes, fates)
	for _, a := range deeds {
		playBook(b, a)
	}
	var out []lane.Fate
	for _, l := range b.letters {
		if l.lane == on {
			out = append(out, l.fate)
		}
	}
	return out
}
