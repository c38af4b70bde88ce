package lane_test

import (
	"math"
	"testing"

	"ledger/api"
	"ledger/lane"
)

func TestNewsLanes(t *testing.T) { // P0.1: 1 to 64, and just so many
	for _, lanes := range []int{math.MinInt, -64, -1, 0, 65, 66, 128, math.MaxInt} {
		if n, e := lane.New(lanes, nil); n != nil || e != api.ErrArg {
			t.Errorf("New(%d) = %v, %d", lanes, n != nil, int(e))
		}
	}
	for lanes := 1; lanes <= 64; lanes++ {
		n := made(t, lanes)
		if n.Now() != 0 {
			t.Errorf("New(%d): the time is %d", lanes, n.Now())
		}
		for on := range lanes {
			hasWaiting(t, n, on, 0)
			waits(t, n, on, 0, "", api.ErrTimeout, 0)
		}
		_, e := n.Waiting(lanes)
		want(t, "Waiting beyond the last lane", e, api.ErrLane)
		sends(t, n, lanes-1, "last")
		waits(t, n, lanes-1, 0, "last", api.OK, 0)
	}
}

func TestNewsFates(t *testing.T) { // P0.1: each kind at the edges of its number, first, in the midst and last
	const most = 1048576
	cases := []struct {
		f lane.Fate
		e api.Errno
	}{
		{fate(-1, 0), api.ErrArg}, {fate(6, 0), api.ErrArg}, {fate(math.MinInt, 0), api.ErrArg}, {fate(math.MaxInt, 0), api.ErrArg},
	}
	for _, n := range []int{math.MinInt, -1, 0, 1, 999, 1000, 1001, most - 1, most, most + 1, math.MaxInt} {
		for kind, top := range []int{-1, -1, 1000, 1000, most, most} {
			e := api.ErrArg
			if top < 0 || n >= 0 && n <= top {
				e = api.OK
			}
			cases = append(cases, struct {
				f lane.Fate
				e api.Errno
			}{fate(kind, n), e})
		}
	}
	for _, c := range cases {
		right := fate(lane.Delay, 7)
		for i := range 3 {
			fates := []lane.Fate{right, right, right}
			fates[i] = c.f
			if n, e := lane.New(1, fates); e != c.e || (n != nil) != (c.e == api.OK) {
				t.Errorf("New with %v at %d = %v, %d; want %d", c.f, i, n != nil, int(e), int(c.e))
			}
		}
	}
}

func TestNewsErrorsInOrder(t *testing.T) { // P0.1: the lanes ahead of the length, the length ahead of the fates
	wrong := func(count int) []lane.Fate {
		fates := make([]lane.Fate, count)
		fates[0].Kind, fates[count-1].Kind = -1, 6
		return fates
	}
	for _, c := range []struct {
		lanes int
		fates []lane.Fate
		e     api.Errno
	}{
		{0, make([]lane.Fate, 65537), api.ErrArg},
		{65, wrong(65537), api.ErrArg},
		{1, wrong(65537), api.ErrLong},
		{64, make([]lane.Fate, 65537), api.ErrLong},
		{64, wrong(65536), api.ErrArg},
		{64, wrong(1), api.ErrArg},
		{64, make([]lane.Fate, 65536), api.OK},
		{0, wrong(1), api.ErrArg},
	} {
		if n, e := lane.New(c.lanes, c.fates); e != c.e || (n != nil) != (c.e == api.OK) {
			t.Errorf("New(%d, %d fates) = %v, %d; want %d", c.lanes, len(c.fates), n != nil, int(e), int(c.e))
		}
	}
}

func TestConstants(t *testing.T) { // P19.1: the kinds by their numbers, and the room of a lane
	kinds := []int{lane.Deliver, lane.Drop, lane.Double, lane.Delay, lane.Cut, lane.Spoil}
	for i, k := range kinds {
		if k != i {
			t.Errorf("kind %d is %d", i, k)
		}
	}
	if lane.Room != 64 {
		t.Errorf("Room = %d", lane.Room)
	}
}

func TestNilIsEmpty(t *testing.T) { // P0.1
	for _, none := range [][]byte{nil, {}} {
		n, e := lane.New(1, []lane.Fate{})
		want(t, "New with an empty list", e, api.OK)
		want(t, "Send of nothing", n.Send(0, none), api.OK)
		hasWaiting(t, n, 0, 1)
		waits(t, n, 0, 0, "", api.OK, 0)
		waits(t, n, 0, 0, "", api.ErrTimeout, 0)
	}
	n := made(t, 1)
	gives(t, n, nil, 0, 0, "", api.ErrArg, 0)
	gives(t, n, []int{}, 0, 0, "", api.ErrArg, 0)
}
