package disk_test

import (
	"math"
	"math/rand"
	"strings"
	"testing"

	"ledger/api"
	"ledger/disk"
)

func walkNames() []string {
	return []string{"a", "b", "a/b", "a/c", "", "/a", "a/", "a//b", "a/../b", "x y", "zz"}
}

func pick[T any](r *rand.Rand, list ...T) T { return list[r.Intn(len(list))] }

// anyName: mostly a name that may be there.
func anyName(r *rand.Rand) string {
	names := walkNames()
	if r.Intn(20) == 0 {
		return pick(r, names...)
	}
	return pick(r, names[:4]...)
}

func anyDeed(r *rand.Rand) deed {
	switch r.Intn(12) {
	case 0, 1:
		return deed{kind: "create", name: anyName(r)}
	case 2:
		return deed{kind: "sync", name: anyName(r)}
	case 3:
		return deed{kind: "sync names"}
	case 4, 5:
		return deed{kind: "rename", name: anyName(r), to: anyName(r)}
	case 6:
		return deed{kind: "remove", name: anyName(r)}
	}
	at := r.Intn(10)
	if r.Intn(20) == 0 {
		at = pick(r, -1, math.MinInt, api.MaxBytes, api.MaxBytes+1, math.MaxInt)
	}
	return deed{kind: "write", name: anyName(r), at: at, data: strings.Repeat(pick(r, "x", "yz", "Q\x00"), r.Intn(5))}
}

func anyChoices(r *rand.Rand) []int {
	var out []int
	for range r.Intn(9) {
		c := r.Intn(6)
		if r.Intn(4) == 0 {
			c = pick(r, -1, -2, -7, math.MinInt, math.MinInt+1, math.MaxInt, 1000003)
		}
		out = append(out, c)
	}
	return out
}

func anyFiles(r *rand.Rand) []disk.File {
	var out []disk.File
	for _, n := range walkNames()[:4] {
		if r.Intn(2) == 0 {
			out = append(out, disk.File{Name: n, Data: []byte("0123456789"[:r.Intn(6)])})
		}
	}
	return out
}

// stroll does some acts on both, and holds all that is told against one another behind each.
func stroll(t *testing.T, r *rand.Rand, d *disk.Disk, b *book, acts int) {
	for range acts {
		if r.Intn(12) == 0 {
			n, e := r.Intn(6)-1, pick(r, api.ErrIO, api.ErrFull, api.ErrDead, api.OK, api.ErrAbsent)
			want(t, "Fail", d.Fail(n, e), b.fail(n, e))
		}
		a := anyDeed(r)
		if got, e := play(d, a), b.do(a); got != e {
			t.Errorf("%+v answers %d; want %d", a, int(got), int(e))
		}
		agree(t, d, b, walkNames())
		if t.Failed() {
			t.Fatalf("behind %+v", b.deeds)
		}
	}
}

func TestWalks(t *testing.T) { // P12.2 to P12.6, P12.8, P12.9, P0.1: any acts, faults and crashes, against the book
	for seed := range 400 {
		r := rand.New(rand.NewSource(int64(seed)))
		room := int64(r.Intn(40))
		if seed%100 == 0 { // room for a file of api.MaxBytes and more
			room = 1 << 22
		}
		d, b := made(t, room), newBook(room, nil)
		if first := anyFiles(r); room >= 20 && r.Intn(2) == 0 {
			d, b = loaded(t, room, first...), newBook(room, first)
		}
		for range 4 {
			stroll(t, r, d, b, r.Intn(25))
			var c *disk.Disk
			for range 6 {
				choices := anyChoices(r)
				left := b.crash(choices)
				b.dead = true
				c = d.Crash(choices)
				holds(t, "Crash", c, told(left))
				agree(t, d, b, walkNames())
				agree(t, c, newBook(room, left), walkNames())
			}
			if t.Failed() {
				t.Fatalf("seed %d, behind %+v", seed, b.deeds)
			}
			d, b = c, newBook(room, c.Files())
		}
	}
}

func TestNothingPending(t *testing.T) { // P12.6: where Pending is 0 a crash loses nothing, whatever the choices
	met := 0
	for seed := range 300 {
		r := rand.New(rand.NewSource(int64(seed)))
		d := made(t, 100)
		for range r.Intn(20) {
			play(d, anyDeed(r))
		}
		for _, n := range d.List("") {
			d.Sync(n)
		}
		d.SyncNames()
		if d.Pending() != 0 {
			t.Fatalf("seed %d: Pending %d, though all is synced", seed, d.Pending())
		}
		now := told(d.Files())
		if now != "" {
			met++
		}
		for range 4 {
			holds(t, "Crash with nothing pending", d.Crash(anyChoices(r)), now)
		}
	}
	if met < 100 {
		t.Errorf("only %d disks had files", met)
	}
}
