package lane_test

import (
	"testing"

	"ledger/api"
	"ledger/lane"
)

func TestExamplesOfNew(t *testing.T) { // P0.1: example 1
	for _, c := range []struct {
		lanes int
		fates []lane.Fate
		e     api.Errno
	}{{0, nil, api.ErrArg}, {65, nil, api.ErrArg}, {1, []lane.Fate{fate(2, 1001)}, api.ErrArg}, {1, []lane.Fate{fate(1, -7)}, api.OK}} {
		if n, e := lane.New(c.lanes, c.fates); e != c.e || (n != nil) != (e == api.OK) {
			t.Errorf("New(%d, %v) = %v, %d; want %d", c.lanes, c.fates, n != nil, int(e), int(c.e))
		}
	}
}

func TestExamplesOfFates(t *testing.T) { // P19.1, P19.3: examples 2 to 6
	n := made(t, 2)
	sends(t, n, 0, "a")
	sends(t, n, 1, "b")
	sends(t, n, 0, "c")
	hasWaiting(t, n, 0, 2)
	waits(t, n, 0, 5, "a", api.OK, 0)
	waits(t, n, 1, 0, "b", api.OK, 0)
	waits(t, n, 0, 0, "c", api.OK, 0)
	waits(t, n, 0, 0, "", api.ErrTimeout, 0)

	n = made(t, 1, fate(3, 3))
	sends(t, n, 0, "late")
	waits(t, n, 0, 2, "", api.ErrTimeout, 2)
	waits(t, n, 0, 9, "late", api.OK, 3)

	n = made(t, 1, fate(2, 2), fate(0, 0))
	sends(t, n, 0, "x", "y")
	waits(t, n, 0, 9, "x", api.OK, 0)
	waits(t, n, 0, 9, "y", api.OK, 0)
	waits(t, n, 0, 9, "x", api.OK, 2)

	n = made(t, 1, fate(3, 2), fate(3, 1), fate(0, 0))
	sends(t, n, 0, "p", "q")
	passes(t, n, 1)
	passes(t, n, 1)
	sends(t, n, 0, "r")
	holds(t, "example 5", n, 0, "q", "p", "r")

	n = made(t, 1, fate(4, 2), fate(5, 1), fate(5, 9))
	sends(t, n, 0, "abc", "abc", "abc")
	holds(t, "example 6", n, 0, "ab", "acc", "abc")
}

func TestExamplesOfClose(t *testing.T) { // P19.3, P19.4: examples 7 and 8
	n := made(t, 1, fate(1, 0))
	sends(t, n, 0, "gone")
	want(t, "Close", n.Close(0), api.OK)
	waits(t, n, 0, 100, "", api.ErrClosed, 0)
	want(t, "Send", n.Send(0, []byte("z")), api.ErrClosed)
	want(t, "Close again", n.Close(0), api.ErrClosed)

	n = made(t, 1, fate(3, 4))
	sends(t, n, 0, "z")
	want(t, "Close", n.Close(0), api.OK)
	waits(t, n, 0, 2, "", api.ErrTimeout, 2)
	waits(t, n, 0, 2, "z", api.OK, 4)
	waits(t, n, 0, 2, "", api.ErrClosed, 4)
}

func TestExamplesOfAny(t *testing.T) { // P19.1, P0.1: example 9
	n := made(t, 2)
	sends(t, n, 0, "a")
	sends(t, n, 1, "b")
	gives(t, n, []int{1, 0}, 0, 1, "b", api.OK, 0)
	gives(t, n, []int{1, 0}, 0, 0, "a", api.OK, 0)
	gives(t, n, []int{1, 0}, 0, 0, "", api.ErrTimeout, 0)
	gives(t, n, []int{0, 0}, 0, 0, "", api.ErrArg, 0)
	gives(t, n, []int{0, 7, 0}, -1, 0, "", api.ErrLane, 0)
}

func TestExampleOfRoom(t *testing.T) { // P19.1: example 10
	n := made(t, 1, append(make([]lane.Fate, 64), fate(lane.Double, 1), fate(lane.Cut, 1))...)
	sends(t, n, 0, numbered(65)...)
	holds(t, "65 messages", n, 0, numbered(64)...)
	sends(t, n, 0, "next")
	holds(t, "the 66th", n, 0, "n")
	waits(t, n, 0, 1, "a", api.OK, 1) // the 65th is lost where the lane was full, and comes once more
}
