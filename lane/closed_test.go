package lane_test

import (
	"slices"
	"testing"

	"ledger/api"
	"ledger/lane"
)

// isOver: the lane answers ErrClosed to all, and the time stands.
func isOver(t *testing.T, n *lane.Net, on int) {
	t.Helper()
	now := n.Now()
	for _, ticks := range []int{0, 1, 65536} {
		waits(t, n, on, ticks, "", api.ErrClosed, now)
		gives(t, n, []int{on}, ticks, 0, "", api.ErrClosed, now)
	}
	want(t, "Send on a closed lane", n.Send(on, nil), api.ErrClosed)
	want(t, "Close of a closed lane", n.Close(on), api.ErrClosed)
	hasWaiting(t, n, on, 0)
}

func TestClosedGivesAll(t *testing.T) { // P19.4: what waits and what is on its way, then ErrClosed, for ever
	n := made(t, 2, fate(lane.Deliver, 0), fate(lane.Drop, 0), fate(lane.Double, 3), fate(lane.Delay, 5), fate(lane.Cut, 1), fate(lane.Spoil, 0))
	sends(t, n, 0, "aa", "bb", "cc", "dd", "ee", "ff")
	want(t, "Close", n.Close(0), api.OK)
	hasWaiting(t, n, 0, 4)
	for _, m := range []string{"aa", "cc", "e", "gf"} {
		waits(t, n, 0, 9, m, api.OK, 0)
	}
	waits(t, n, 0, 1, "", api.ErrTimeout, 1)
	waits(t, n, 0, 9, "cc", api.OK, 3)
	gives(t, n, []int{0}, 1, 0, "", api.ErrTimeout, 4)
	gives(t, n, []int{0}, 9, 0, "dd", api.OK, 5)
	isOver(t, n, 0)
	passes(t, n, 2000)
	isOver(t, n, 0)
	sends(t, n, 1, "still")
	waits(t, n, 1, 0, "still", api.OK, 2005)
	isOver(t, n, 0)
}

func TestClosedAtOnce(t *testing.T) { // P19.4: a lane on which nothing was sent
	n := made(t, 2)
	want(t, "Close", n.Close(1), api.OK)
	isOver(t, n, 1)
	waits(t, n, 0, 2, "", api.ErrTimeout, 2)
	want(t, "Close", n.Close(0), api.OK)
	isOver(t, n, 0)
	isOver(t, n, 1)
}

func TestClosedAndFull(t *testing.T) { // P19.4: what comes to a full lane is lost, and no longer on its way
	n := made(t, 1, append(make([]lane.Fate, 64), fate(lane.Delay, 2), fate(lane.Delay, 4), fate(lane.Delay, 4))...)
	sends(t, n, 0, numbered(64)...)
	sends(t, n, 0, "lost", "kept", "lost too")
	want(t, "Close", n.Close(0), api.OK)
	passes(t, n, 3)
	waits(t, n, 0, 9, "!", api.OK, 3)
	passes(t, n, 1)
	holds(t, "a full lane that is closed", n, 0, slices.Concat(numbered(64)[1:], []string{"kept"})...)
	isOver(t, n, 0)
}

func TestClosedWhileTimeGoesOn(t *testing.T) { // P19.4: the last message comes by a wait on another lane, or by Pass
	for _, goOn := range []func(*lane.Net){
		func(n *lane.Net) { n.Pass(6) },
		func(n *lane.Net) { n.Wait(1, 6) },
		func(n *lane.Net) { n.Any([]int{1, 2}, 6) },
	} {
		n := made(t, 3, fate(lane.Delay, 6), fate(lane.Double, 6), fate(lane.Delay, 4))
		sends(t, n, 0, "a", "b", "c")
		want(t, "Close", n.Close(0), api.OK)
		want(t, "Close of another", n.Close(2), api.OK)
		goOn(n)
		if n.Now() != 6 {
			t.Errorf("Now = %d", n.Now())
		}
		holds(t, "the closed lane", n, 0, "b", "c", "a", "b")
		isOver(t, n, 0)
	}
}

func TestAnyOfClosedLanes(t *testing.T) { // P19.4: ErrClosed when all of them are over, and not before
	n := made(t, 4, fate(lane.Delay, 3), fate(lane.Deliver, 0))
	sends(t, n, 1, "late")
	sends(t, n, 2, "here")
	for _, on := range []int{0, 1, 2} {
		want(t, "Close", n.Close(on), api.OK)
	}
	gives(t, n, []int{0, 3}, 1, 0, "", api.ErrTimeout, 1)
	gives(t, n, []int{3, 0}, 0, 0, "", api.ErrTimeout, 1)
	gives(t, n, []int{0, 1}, 1, 0, "", api.ErrTimeout, 2)
	gives(t, n, []int{0, 1, 2}, 9, 2, "here", api.OK, 2)
	gives(t, n, []int{2, 0}, 9, 0, "", api.ErrClosed, 2)
	gives(t, n, []int{2, 0, 1}, 9, 1, "late", api.OK, 3)
	gives(t, n, []int{1, 2, 0}, 9, 0, "", api.ErrClosed, 3)
	gives(t, n, []int{1, 2, 0, 3}, 9, 0, "", api.ErrTimeout, 12)
	want(t, "Close", n.Close(3), api.OK)
	gives(t, n, []int{3, 1, 2, 0}, 9, 0, "", api.ErrClosed, 12)
}

func TestCloseAlone(t *testing.T) { // P19.2, P19.4: the others are as they were
	n := made(t, 3, fate(lane.Deliver, 0), fate(lane.Delay, 2))
	sends(t, n, 0, "a")
	sends(t, n, 2, "b")
	want(t, "Close", n.Close(1), api.OK)
	sends(t, n, 0, "c")
	sends(t, n, 2, "d")
	holds(t, "lane 0", n, 0, "a", "c")
	passes(t, n, 2)
	holds(t, "lane 2", n, 2, "d", "b")
	want(t, "Close of another", n.Close(0), api.OK)
	waits(t, n, 2, 1, "", api.ErrTimeout, 3)
}

func TestRefusals(t *testing.T) { // P0.1: the first error that is named, zero values beside it, and nothing changed
	n := made(t, 3, fate(lane.Cut, 1))
	long := make([]byte, 1048577)
	for _, on := range []int{-1 << 63, -1, 3, 64, 1<<63 - 1} {
		waits(t, n, on, -1, "", api.ErrLane, 0)
		waits(t, n, on, 5, "", api.ErrLane, 0)
		want(t, "Send on no lane", n.Send(on, long), api.ErrLane)
		want(t, "Close of no lane", n.Close(on), api.ErrLane)
		count, e := n.Waiting(on)
		if count != 0 || e != api.ErrLane {
			t.Errorf("Waiting(%d) = %d, %d", on, count, int(e))
		}
		gives(t, n, []int{0, 0, on}, -1, 0, "", api.ErrLane, 0)
		gives(t, n, []int{on, 1, 1}, 1, 0, "", api.ErrLane, 0)
		gives(t, n, append(make([]int, 64), on), -1, 0, "", api.ErrLong, 0)
		gives(t, n, append(make([]int, 63), on), -1, 0, "", api.ErrLane, 0)
	}
	gives(t, n, make([]int, 65), 0, 0, "", api.ErrLong, 0)
	gives(t, n, make([]int, 64), 0, 0, "", api.ErrArg, 0)
	gives(t, n, []int{2, 1, 2}, 0, 0, "", api.ErrArg, 0)
	gives(t, n, []int{2, 1, 0}, -1, 0, "", api.ErrArg, 0)
	want(t, "Close", n.Close(2), api.OK)
	want(t, "Send of too much on a closed lane", n.Send(2, long), api.ErrClosed)
	want(t, "Send of too much", n.Send(0, long), api.ErrLong)
	sends(t, n, 0, "abc")
	waits(t, n, 0, -1, "", api.ErrArg, 0)
	gives(t, n, []int{0}, 65537, 0, "", api.ErrArg, 0)
	gives(t, n, []int{0, 0}, 0, 0, "", api.ErrArg, 0)
	holds(t, "behind the refusals", n, 0, "a")
}

func TestAnyOfAllLanes(t *testing.T) { // P0.1, P19.1: 64 of them, in the list's order
	n := made(t, 64)
	var lanes []int
	for i := range 64 {
		lanes = append(lanes, (i*37+5)%64)
		sends(t, n, i, "m"+numbered(64)[i])
	}
	for _, on := range lanes {
		gives(t, n, lanes, 9, on, "m"+numbered(64)[on], api.OK, 0)
	}
	gives(t, n, lanes, 9, 0, "", api.ErrTimeout, 9)
}
