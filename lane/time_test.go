package lane_test

import (
	"math"
	"testing"

	"ledger/api"
	"ledger/lane"
)

func TestTimeStands(t *testing.T) { // P19.3: by New, Send, Close, Waiting, Now, and by all that is refused
	n := made(t, 2, fate(lane.Delay, 3), fate(lane.Double, 2))
	passes(t, n, 5)
	for range 3 {
		n.Send(0, []byte("a"))
		n.Send(7, nil)
		n.Send(0, make([]byte, 1048577))
		n.Close(1)
		n.Close(9)
		n.Waiting(0)
		n.Waiting(-3)
		n.Now()
		n.Wait(-1, 10)
		n.Wait(2, 10)
		n.Wait(0, -1)
		n.Wait(0, 65537)
		n.Any(nil, 10)
		n.Any([]int{1, 0, 1}, 10)
		n.Any([]int{0, 2}, 10)
		n.Any(make([]int, 65), 10)
		n.Any([]int{0}, -1)
		n.Pass(-1)
		n.Pass(65537)
		n.Pass(0)
		if n.Now() != 5 {
			t.Fatalf("the time is %d; want 5", n.Now())
		}
	}
	waits(t, n, 1, 10, "", api.ErrClosed, 5)
	gives(t, n, []int{1}, 10, 0, "", api.ErrClosed, 5)
	waits(t, n, 0, 10, "a", api.OK, 5)
}

func TestWaitsTime(t *testing.T) { // P19.3: as far as is needed, and with ErrTimeout by all its ticks
	for late := range 8 {
		for ticks := range 8 {
			n := made(t, 2, fate(lane.Delay, late))
			passes(t, n, 11)
			sends(t, n, 1, "m")
			if ticks < late {
				waits(t, n, 1, ticks, "", api.ErrTimeout, 11+ticks)
				waits(t, n, 1, late-ticks, "m", api.OK, 11+late)
			} else {
				waits(t, n, 1, ticks, "m", api.OK, 11+late)
			}
			gives(t, n, []int{1, 0}, ticks, 0, "", api.ErrTimeout, 11+late+ticks)
		}
	}
}

func TestAnysTime(t *testing.T) { // P19.3: till the first of its lanes has something; what comes to others takes no part
	for late := range 5 {
		n := made(t, 3, fate(lane.Delay, 2), fate(lane.Delay, late), fate(lane.Deliver, 0))
		sends(t, n, 0, "a")
		sends(t, n, 1, "b")
		sends(t, n, 2, "c")
		switch lanes := []int{0, 1}; {
		case late < 2:
			gives(t, n, lanes, 9, 1, "b", api.OK, late)
			gives(t, n, lanes, 9, 0, "a", api.OK, 2)
		case late == 2:
			gives(t, n, lanes, 9, 0, "a", api.OK, 2)
			gives(t, n, lanes, 9, 1, "b", api.OK, 2)
		default:
			gives(t, n, lanes, 9, 0, "a", api.OK, 2)
			gives(t, n, lanes, 9, 1, "b", api.OK, late)
		}
		gives(t, n, []int{0, 1}, 3, 0, "", api.ErrTimeout, max(2, late)+3)
	}
}

func TestTicksAtTheirEdges(t *testing.T) { // P19.3, P0.1
	n := made(t, 2)
	for _, ticks := range []int{math.MinInt, -65536, -1, 65537, 65538, math.MaxInt} {
		waits(t, n, 0, ticks, "", api.ErrArg, 0)
		gives(t, n, []int{1, 0}, ticks, 0, "", api.ErrArg, 0)
		want(t, "Pass", n.Pass(ticks), api.ErrArg)
	}
	waits(t, n, 0, 65536, "", api.ErrTimeout, 65536)
	gives(t, n, []int{1, 0}, 65536, 0, "", api.ErrTimeout, 131072)
	passes(t, n, 65536)
	passes(t, n, 0)
	if n.Now() != 196608 {
		t.Errorf("Now = %d", n.Now())
	}
}

func TestTimeIsOneForAll(t *testing.T) { // P19.2, P19.3: a wait on one lane brings what is due on the others
	n := made(t, 3, fate(lane.Delay, 2), fate(lane.Delay, 4), fate(lane.Delay, 5))
	sends(t, n, 0, "a")
	sends(t, n, 1, "b")
	sends(t, n, 1, "c")
	waits(t, n, 2, 3, "", api.ErrTimeout, 3)
	hasWaiting(t, n, 0, 1)
	hasWaiting(t, n, 1, 0)
	gives(t, n, []int{2}, 1, 0, "", api.ErrTimeout, 4)
	hasWaiting(t, n, 1, 1)
	passes(t, n, 1)
	holds(t, "lane 0", n, 0, "a")
	holds(t, "lane 1", n, 1, "b", "c")
}

func TestPassTakesNothing(t *testing.T) { // P19.3: what waits and what is on its way is there behind it
	n := made(t, 1, fate(lane.Deliver, 0), fate(lane.Delay, 10), fate(lane.Delay, 40))
	sends(t, n, 0, "a", "b", "c")
	passes(t, n, 39)
	holds(t, "39 ticks", n, 0, "a", "b")
	waits(t, n, 0, 5, "c", api.OK, 40)
}
