package lane_test

import (
	"slices"
	"strconv"
	"strings"
	"testing"

	"ledger/api"
	"ledger/lane"
)

// made: a new net.
func made(t *testing.T, lanes int, fates ...lane.Fate) *lane.Net {
	t.Helper()
	n, e := lane.New(lanes, fates)
	if n == nil || e != api.OK {
		t.Fatalf("New(%d, %v) = %v, %d", lanes, fates, n != nil, int(e))
	}
	return n
}

func fate(kind, n int) lane.Fate { return lane.Fate{Kind: kind, N: n} }

// want: an answer that should be this one.
func want(t *testing.T, what string, got, e api.Errno) {
	t.Helper()
	if got != e {
		t.Errorf("%s = %d; want %d", what, int(got), int(e))
	}
}

// sends: these messages are taken, one behind the other.
func sends(t *testing.T, n *lane.Net, on int, messages ...string) {
	t.Helper()
	for _, m := range messages {
		if e := n.Send(on, []byte(m)); e != api.OK {
			t.Fatalf("Send(%d, %s) = %d", on, short(m), int(e))
		}
	}
}

// waits: Wait's answer, and the time behind it.
func waits(t *testing.T, n *lane.Net, on, ticks int, message string, e api.Errno, now int) {
	t.Helper()
	b, f := n.Wait(on, ticks)
	if string(b) != message || f != e || n.Now() != now {
		t.Errorf("Wait(%d, %d) = %s, %d at %d; want %s, %d at %d", on, ticks, short(string(b)), int(f), n.Now(), short(message), int(e), now)
	}
}

// gives: Any's answer, and the time behind it.
func gives(t *testing.T, n *lane.Net, lanes []int, ticks int, on int, message string, e api.Errno, now int) {
	t.Helper()
	i, b, f := n.Any(lanes, ticks)
	if i != on || string(b) != message || f != e || n.Now() != now {
		t.Errorf("Any(%v, %d) = %d, %s, %d at %d; want %d, %s, %d at %d", lanes, ticks, i, short(string(b)), int(f), n.Now(), on, short(message), int(e), now)
	}
}

// holds: just these messages wait on the lane, and are taken.
func holds(t *testing.T, what string, n *lane.Net, on int, messages ...string) {
	t.Helper()
	now := n.Now()
	if got := drained(t, n, on); !slices.Equal(got, messages) {
		t.Errorf("%s: lane %d has %s; want %s", what, on, short(got...), short(messages...))
	}
	if n.Now() != now {
		t.Errorf("%s: the time has gone on from %d to %d", what, now, n.Now())
	}
}

// drained: what waits on the lane, and waits there no longer.
func drained(t *testing.T, n *lane.Net, on int) []string {
	t.Helper()
	count, e := n.Waiting(on)
	want(t, "Waiting", e, api.OK)
	var out []string
	for range count {
		b, e := n.Wait(on, 0)
		want(t, "Wait for what waits", e, api.OK)
		out = append(out, string(b))
	}
	if left, _ := n.Waiting(on); left != 0 {
		t.Errorf("%d of %d messages of lane %d are left", left, count, on)
	}
	return out
}

// passes: the time goes on by so many ticks.
func passes(t *testing.T, n *lane.Net, ticks int) {
	t.Helper()
	now := n.Now()
	want(t, "Pass", n.Pass(ticks), api.OK)
	if n.Now() != now+ticks {
		t.Fatalf("Pass(%d) goes from %d to %d", ticks, now, n.Now())
	}
}

// hasWaiting: so many messages wait on the lane.
func hasWaiting(t *testing.T, n *lane.Net, on, count int) {
	t.Helper()
	if got, e := n.Waiting(on); got != count || e != api.OK {
		t.Errorf("Waiting(%d) = %d, %d; want %d", on, got, int(e), count)
	}
}

// short: messages for a reader's eyes.
func short(messages ...string) string {
	var out []string
	for _, m := range messages {
		if len(m) > 20 {
			m = m[:20] + ".."
		}
		out = append(out, strconv.Quote(m))
	}
	return strings.Join(out, " ")
}

// numbered: so many messages that are told apart by their number.
func numbered(count int) []string {
	var out []string
	for i := range count {
		out = append(out, string(rune('!'+i)))
	}
	return out
}
