package lane_test

import (
	"slices"
	"strings"
	"testing"

	"ledger/api"
	"ledger/lane"
)

// arrival: a message and the time at which it comes.
type arrival struct {
	text string
	at   int
}

// arrivals: all that comes to a lane within so many ticks, taken as it comes.
func arrivals(t *testing.T, n *lane.Net, on, ticks int) []arrival {
	t.Helper()
	var out []arrival
	for i := 0; ; i++ {
		for _, s := range drained(t, n, on) {
			out = append(out, arrival{s, n.Now()})
		}
		if i == ticks {
			return out
		}
		passes(t, n, 1)
	}
}

func TestEachFate(t *testing.T) { // P19.1: as often, as late and as whole as it says, at the edges of the numbers
	long := strings.Repeat("0123456789abcdef", 65536) // api.MaxBytes bytes
	last := long[:1048575] + "g"
	for _, c := range []struct {
		f    lane.Fate
		text string
		want []arrival
	}{
		{fate(lane.Deliver, 0), "ab", []arrival{{"ab", 3}}},
		{fate(lane.Deliver, -9), "ab", []arrival{{"ab", 3}}},
		{fate(lane.Deliver, 2), "", []arrival{{"", 3}}},
		{fate(lane.Deliver, 1), long, []arrival{{long, 3}}},
		{fate(lane.Drop, 0), "ab", nil},
		{fate(lane.Drop, 5), "", nil},
		{fate(lane.Double, 0), "ab", []arrival{{"ab", 3}, {"ab", 3}}},
		{fate(lane.Double, 1), "ab", []arrival{{"ab", 3}, {"ab", 4}}},
		{fate(lane.Double, 1000), "", []arrival{{"", 3}, {"", 1003}}},
		{fate(lane.Double, 7), long, []arrival{{long, 3}, {long, 10}}},
		{fate(lane.Delay, 0), "ab", []arrival{{"ab", 3}}},
		{fate(lane.Delay, 1), "ab", []arrival{{"ab", 4}}},
		{fate(lane.Delay, 999), "ab", []arrival{{"ab", 1002}}},
		{fate(lane.Delay, 1000), "", []arrival{{"", 1003}}},
		{fate(lane.Delay, 5), long, []arrival{{long, 8}}},
		{fate(lane.Cut, 0), "abc", []arrival{{"", 3}}},
		{fate(lane.Cut, 1), "abc", []arrival{{"a", 3}}},
		{fate(lane.Cut, 2), "abc", []arrival{{"ab", 3}}},
		{fate(lane.Cut, 3), "abc", []arrival{{"abc", 3}}},
		{fate(lane.Cut, 4), "abc", []arrival{{"abc", 3}}},
		{fate(lane.Cut, 1048576), "abc", []arrival{{"abc", 3}}},
		{fate(lane.Cut, 0), "", []arrival{{"", 3}}},
		{fate(lane.Cut, 1048576), long, []arrival{{long, 3}}},
		{fate(lane.Cut, 1048575), long, []arrival{{long[:1048575], 3}}},
		{fate(lane.Spoil, 0), "abc", []arrival{{"`bc", 3}}},
		{fate(lane.Spoil, 1), "abc", []arrival{{"acc", 3}}},
		{fate(lane.Spoil, 2), "abc", []arrival{{"abb", 3}}},
		{fate(lane.Spoil, 3), "abc", []arrival{{"abc", 3}}},
		{fate(lane.Spoil, 1048576), "abc", []arrival{{"abc", 3}}},
		{fate(lane.Spoil, 0), "", []arrival{{"", 3}}},
		{fate(lane.Spoil, 0), "\x00\xff", []arrival{{"\x01\xff", 3}}},
		{fate(lane.Spoil, 1), "\x00\xff", []arrival{{"\x00\xfe", 3}}},
		{fate(lane.Spoil, 1048575), long, []arrival{{last, 3}}},
		{fate(lane.Spoil, 1048576), long, []arrival{{long, 3}}},
	} {
		n := made(t, 1, c.f)
		passes(t, n, 3)
		sends(t, n, 0, c.text)
		if got := arrivals(t, n, 0, 1010); !slices.Equal(got, c.want) {
			t.Errorf("%v: %s comes %d times, not as it should", c.f, short(c.text), len(got))
		}
	}
}

func TestSpoilTurnsOneBit(t *testing.T) { // P19.1: the lowest, of each byte there is
	for b := range 256 {
		n := made(t, 1, fate(lane.Spoil, 1))
		sends(t, n, 0, string([]byte{7, byte(b), 7}))
		turned := b + 1
		if b%2 == 1 {
			turned = b - 1
		}
		waits(t, n, 0, 0, string([]byte{7, byte(turned), 7}), api.OK, 0)
	}
}

func TestFatesGoByNumber(t *testing.T) { // P19.1, P19.2: over all lanes; behind the list's end each message is delivered
	n := made(t, 3, fate(lane.Drop, 0), fate(lane.Cut, 1), fate(lane.Double, 0), fate(lane.Drop, 0))
	sends(t, n, 2, "a0")
	sends(t, n, 0, "b0")
	sends(t, n, 1, "c0")
	sends(t, n, 2, "d0")
	for i := range 3 {
		sends(t, n, i, "e0", "f0")
	}
	holds(t, "behind the list", n, 0, "b", "e0", "f0")
	holds(t, "behind the list", n, 1, "c0", "c0", "e0", "f0")
	holds(t, "behind the list", n, 2, "e0", "f0")
}

func TestAllFatesAreTaken(t *testing.T) { // P19.1: a list as long as may be: the last one goes to the last message, and the next one is delivered
	fates := make([]lane.Fate, 65536)
	for i := range fates {
		fates[i] = fate(lane.Drop, 0)
	}
	fates[65535] = fate(lane.Cut, 1)
	n := made(t, 2, fates...)
	for i := range 65535 {
		sends(t, n, i%2, "gone")
	}
	hasWaiting(t, n, 0, 0)
	hasWaiting(t, n, 1, 0)
	sends(t, n, 0, "last", "next")
	holds(t, "behind 65535 messages", n, 0, "l", "next")
}

func TestRefusedMessagesTakeNoFate(t *testing.T) { // P19.1, P0.1: of no lane, of a closed lane, above the bound
	n := made(t, 2, fate(lane.Cut, 1), fate(lane.Cut, 2), fate(lane.Delay, 1))
	want(t, "Close", n.Close(1), api.OK)
	refusals := func() {
		want(t, "Send on no lane", n.Send(2, []byte("abc")), api.ErrLane)
		want(t, "Send on no lane", n.Send(-1, []byte("abc")), api.ErrLane)
		want(t, "Send on a closed lane", n.Send(1, []byte("abc")), api.ErrClosed)
		want(t, "Send of too much", n.Send(0, make([]byte, 1048577)), api.ErrLong)
	}
	refusals()
	sends(t, n, 0, "abc")
	refusals()
	refusals()
	sends(t, n, 0, "abc")
	refusals()
	sends(t, n, 0, "abc")
	refusals()
	sends(t, n, 0, "abc")
	holds(t, "the first, second and fourth", n, 0, "a", "ab", "abc")
	waits(t, n, 0, 1, "abc", api.OK, 1)
}

func TestLostMessagesTakeTheirFate(t *testing.T) { // P19.1: those that come to a full lane, and those that are dropped
	fates := make([]lane.Fate, 64)
	fates = append(fates, fate(lane.Double, 0), fate(lane.Cut, 1), fate(lane.Drop, 0), fate(lane.Spoil, 0))
	n := made(t, 2, fates...)
	sends(t, n, 0, numbered(66)...)
	sends(t, n, 1, "gone", "abc")
	holds(t, "the full lane", n, 0, numbered(64)...)
	holds(t, "the other", n, 1, "`bc")
}

func TestDueInTheOrderOfNumbers(t *testing.T) { // P19.1: whenever they were sent, ahead of what is sent in that tick
	n := made(t, 1, fate(lane.Delay, 5), fate(lane.Double, 5), fate(lane.Delay, 3), fate(lane.Deliver, 0), fate(lane.Delay, 1), fate(lane.Double, 1), fate(lane.Deliver, 0))
	sends(t, n, 0, "a", "b")
	passes(t, n, 2)
	sends(t, n, 0, "c", "d")
	passes(t, n, 2)
	sends(t, n, 0, "e", "f")
	passes(t, n, 1)
	sends(t, n, 0, "g")
	holds(t, "five ticks", n, 0, "b", "d", "f", "a", "b", "c", "e", "f", "g")
}

func TestRoomForWhatIsDue(t *testing.T) { // P19.1: of what is due in one tick the first ones by number find room; the rest is lost, for ever
	fates := slices.Repeat([]lane.Fate{fate(lane.Delay, 2)}, 70)
	n := made(t, 2, fates...)
	sends(t, n, 0, numbered(68)...)
	sends(t, n, 1, "x", "y")
	passes(t, n, 1)
	sends(t, n, 0, "first")
	passes(t, n, 1)
	sends(t, n, 0, "behind")
	hasWaiting(t, n, 0, 64)
	holds(t, "the full lane", n, 0, slices.Concat([]string{"first"}, numbered(63))...)
	holds(t, "the other", n, 1, "x", "y")
	waits(t, n, 0, 2000, "", api.ErrTimeout, 2002)
}

func TestFullLaneLosesNothingElse(t *testing.T) { // P19.1: what waits stays, room that is made is filled again
	n := made(t, 2, append(make([]lane.Fate, 63), fate(lane.Double, 0), fate(lane.Double, 3))...)
	sends(t, n, 0, numbered(64)...) // the second copy of the last one finds no room
	sends(t, n, 0, "lost")
	waits(t, n, 0, 0, "!", api.OK, 0)
	sends(t, n, 0, "p", "q")
	hasWaiting(t, n, 0, 64)
	waits(t, n, 0, 0, "\"", api.OK, 0)
	passes(t, n, 3)
	sends(t, n, 0, "r")
	holds(t, "the lane", n, 0, slices.Concat(numbered(64)[2:], []string{"p", "lost"})...)
	hasWaiting(t, n, 1, 0)
}

func TestSentOnALaterTick(t *testing.T) { // P19.1: late is reckoned from the sending, far behind the beginning too
	n := made(t, 1, fate(lane.Delay, 1000), fate(lane.Double, 1000))
	passes(t, n, 65536)
	passes(t, n, 65536)
	sends(t, n, 0, "a")
	passes(t, n, 999)
	sends(t, n, 0, "b")
	waits(t, n, 0, 0, "b", api.OK, 132071)
	waits(t, n, 0, 1, "a", api.OK, 132072)
	waits(t, n, 0, 998, "", api.ErrTimeout, 133070)
	waits(t, n, 0, 1, "b", api.OK, 133071)
	waits(t, n, 0, 65536, "", api.ErrTimeout, 198607)
}
