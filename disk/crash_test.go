package disk_test

import (
	"bytes"
	"fmt"
	"math"
	"slices"
	"strings"
	"testing"

	"ledger/api"
	"ledger/disk"
)

type outcome struct {
	choices []int
	files   string
}

// outcomes: crashes of one disk, one after the other.
func outcomes(t *testing.T, d *disk.Disk, list ...outcome) {
	t.Helper()
	for range 2 { // each of them again: a disk that crashed goes on telling
		for _, c := range list {
			x := d.Crash(c.choices)
			if x == nil {
				t.Fatalf("Crash(%v) is nil", c.choices)
			}
			holds(t, fmt.Sprintf("Crash(%v)", c.choices), x, c.files)
			if x.Pending() != 0 || x.Acts() != 0 {
				t.Errorf("Crash(%v): Pending %d, Acts %d", c.choices, x.Pending(), x.Acts())
			}
		}
	}
}

func TestCrashOfNewFile(t *testing.T) { // P12.9: example 3
	d := made(t, 100)
	d.Create("a")
	d.Write("a", 0, []byte("xyz"))
	outcomes(t, d,
		outcome{nil, ""},
		outcome{[]int{0}, ""},
		outcome{[]int{0, 3}, ""},
		outcome{[]int{1}, `a=""`},
		outcome{[]int{1, 1}, `a="x"`},
		outcome{[]int{1, 2}, `a="xy"`},
		outcome{[]int{1, 3}, `a="xyz"`},
		outcome{[]int{1, 4}, `a=""`},
		outcome{[]int{-1, -1}, `a="xyz"`},
		outcome{[]int{-2, -1}, ""},
		outcome{[]int{3, 6, 9}, `a="xy"`},
	)
}

func TestCrashOfWrites(t *testing.T) { // P12.9: example 4, and a choice is taken though no names' act is loose
	d := made(t, 100)
	d.Create("a")
	d.SyncNames()
	d.Write("a", 0, []byte("xyz"))
	d.Write("a", 1, []byte("Q"))
	outcomes(t, d,
		outcome{nil, `a=""`},
		outcome{[]int{0, 0, 1}, `a="\x00Q"`},
		outcome{[]int{0, 3, 0}, `a="xyz"`},
		outcome{[]int{0, 1, 1}, `a="xQ"`},
		outcome{[]int{7, 3, 1}, `a="xQz"`},
		outcome{[]int{5, 2}, `a="xy"`},
	)
}

func TestCrashOfSwap(t *testing.T) { // P12.9, P12.10: examples 5 and 6
	swapped := func(synced bool) *disk.Disk {
		d := made(t, 100)
		d.Create("a")
		d.Write("a", 0, []byte("old"))
		d.Sync("a")
		d.SyncNames()
		d.Create("b")
		d.Write("b", 0, []byte("new"))
		if synced {
			d.Sync("b")
		}
		d.Rename("b", "a")
		return d
	}
	outcomes(t, swapped(true), outcome{[]int{0}, `a="old"`}, outcome{[]int{1}, `a="old" b="new"`}, outcome{[]int{2}, `a="new"`}, outcome{[]int{3}, `a="old"`})
	d := swapped(false)
	if d.Pending() != 3 {
		t.Errorf("Pending %d", d.Pending())
	}
	outcomes(t, d, outcome{[]int{2}, `a=""`}, outcome{[]int{2, 1}, `a="n"`}, outcome{[]int{1, 2}, `a="old" b="ne"`}, outcome{[]int{0, 2}, `a="old"`})
	d = swapped(true)
	d.SyncNames()
	outcomes(t, d, outcome{nil, `a="new"`}, outcome{[]int{1}, `a="new"`}, outcome{[]int{2, 2}, `a="new"`}, outcome{[]int{-5, 7, 1}, `a="new"`})
}

func TestCrashOfLostFile(t *testing.T) { // P12.9, P12.6: example 9; more may be used than there is room
	d := made(t, 100)
	d.Create("a")
	d.Write("a", 0, make([]byte, 60))
	d.Sync("a")
	d.SyncNames()
	d.Remove("a")
	d.Create("b")
	d.Write("b", 0, make([]byte, 60))
	d.Sync("b")
	if d.Used() != 60 || d.Pending() != 2 {
		t.Errorf("Used %d, Pending %d", d.Used(), d.Pending())
	}
	for n, names := range []string{"a", "", "b"} {
		if got := strings.Join(d.Crash([]int{n}).List(""), " "); got != names {
			t.Errorf("Crash(%d): %q; want %q", n, got, names)
		}
	}
}

func TestMoreUsedThanRoom(t *testing.T) { // P12.9, P12.3, P12.2: each write that grows a file is refused, and all else goes on
	d := made(t, 100)
	d.Create("a")
	d.Write("a", 0, make([]byte, 60))
	d.Sync("a")
	d.SyncNames()
	d.Create("b")
	d.Write("b", 0, make([]byte, 40))
	d.Remove("a")
	want(t, "Write", d.Write("b", 40, make([]byte, 60)), api.OK)
	d.Sync("b")
	if d.Used() != 100 || d.Pending() != 2 {
		t.Errorf("Used %d, Pending %d", d.Used(), d.Pending())
	}
	x := d.Crash([]int{1})
	if x.Used() != 160 || strings.Join(x.List(""), " ") != "a b" {
		t.Fatalf("Used %d, List %q", x.Used(), x.List(""))
	}
	if _, e := disk.Load(100, x.Files()); e != api.ErrFull {
		t.Errorf("Load of its files = %d", int(e))
	}
	if y, e := disk.Load(160, x.Files()); e != api.OK || y.Used() != 160 {
		t.Errorf("Load of its files with more room = %d", int(e))
	}
	want(t, "a write that grows", x.Write("b", 100, []byte("x")), api.ErrFull)
	want(t, "a write that grows by its end", x.Write("b", 99, []byte("xy")), api.ErrFull)
	want(t, "a write that does not", x.Write("b", 99, []byte("x")), api.OK)
	want(t, "a write of no bytes", x.Write("b", 500, nil), api.OK)
	want(t, "Create", x.Create("c"), api.OK)
	want(t, "a write to it", x.Write("c", 0, []byte("x")), api.ErrFull)
	want(t, "Sync", x.Sync("b"), api.OK)
	want(t, "Rename", x.Rename("b", "d"), api.OK)
	want(t, "SyncNames", x.SyncNames(), api.OK)
	if y := x.Crash(nil); y.Used() != 160 || strings.Join(y.List(""), " ") != "a c d" {
		t.Errorf("a crash of it: Used %d, List %q", y.Used(), y.List(""))
	}
	x = d.Crash([]int{1})
	want(t, "Remove", x.Remove("a"), api.OK)
	want(t, "a write on the full disk", x.Write("b", 100, []byte("x")), api.ErrFull)
	want(t, "Create over the other", x.Create("b"), api.OK)
	want(t, "a write that has room", x.Write("b", 0, make([]byte, 100)), api.OK)
}

func TestRoomBehindCrash(t *testing.T) { // P12.9: the same room
	d := loaded(t, 7, file("a", "abc"))
	x := d.Crash(nil)
	want(t, "up to the room", x.Write("a", 3, []byte("defg")), api.OK)
	want(t, "above it", x.Write("a", 7, []byte("h")), api.ErrFull)
}

func TestChoicesByTheOrderOfWrites(t *testing.T) { // P12.9: over all files, of those that have a name alone
	d := loaded(t, 100, file("a", ""), file("b", ""), file("c", ""))
	for i, n := range []string{"b", "a", "c", "b", "a", "c", "a"} {
		d.Write(n, 3*i, []byte(strings.Repeat(string(rune('1'+i)), 2)))
	}
	d.Remove("c")
	zeros := func(n int) string { return strings.Repeat(`\x00`, n) }
	outcomes(t, d,
		outcome{[]int{1, 1, 2, 0, 1, 2},
			fmt.Sprintf(`a="%s22%s5%s77" b="1"`, zeros(3), zeros(7), zeros(5))},
		outcome{[]int{0, 1, 0, 2, 0, 1, 0, 0},
			fmt.Sprintf(`a="%s5" b="1" c="%s33"`, zeros(12), zeros(6))},
		outcome{[]int{1, 0, 0, 2, 0, 0}, fmt.Sprintf(`a="" b="%s44"`, zeros(9))},
	)
}

func TestOrderIsOfWritesNotOfNames(t *testing.T) { // P12.9: a later write of the first name comes behind, across renames too
	d := loaded(t, 100, file("z", ""), file("m", ""))
	d.Write("z", 0, []byte("11"))
	d.Write("m", 0, []byte("22"))
	d.Rename("z", "a")
	d.Write("a", 2, []byte("33"))
	d.Write("m", 2, []byte("44"))
	d.SyncNames()
	outcomes(t, d,
		outcome{[]int{0, 1}, `a="1" m=""`},
		outcome{[]int{0, 0, 1}, `a="" m="2"`},
		outcome{[]int{0, 0, 0, 1}, `a="\x00\x003" m=""`},
		outcome{[]int{0, 2, 2, 2, 1}, `a="1133" m="224"`},
	)
}

func TestLostFileKeepsItsWrites(t *testing.T) { // P12.9, P12.6: it comes back with what lasts of them
	d := loaded(t, 100, file("a", "abc"))
	d.Write("a", 2, []byte("XY"))
	d.Create("a")
	d.Write("a", 0, []byte("new"))
	d.Sync("a")
	d.Rename("a", "b")
	outcomes(t, d,
		outcome{[]int{0}, `a="abc"`},
		outcome{[]int{0, 1}, `a="abX"`},
		outcome{[]int{0, 2}, `a="abXY"`},
		outcome{[]int{1, 2}, `a="new"`},
		outcome{[]int{2, 2}, `b="new"`},
	)
}

func TestSyncUnderALaterName(t *testing.T) { // P12.9: bytes last by the file, names by the names' acts
	d := made(t, 100)
	d.Create("a")
	d.Write("a", 0, []byte("abc"))
	d.Rename("a", "b")
	d.Sync("b")
	outcomes(t, d, outcome{[]int{0}, ""}, outcome{[]int{1}, `a="abc"`}, outcome{[]int{2}, `b="abc"`})
}

func TestSyncNamesLeavesWritesLoose(t *testing.T) { // P12.3, P12.9
	d := made(t, 100)
	d.Create("a")
	d.Write("a", 0, []byte("abc"))
	d.SyncNames()
	outcomes(t, d, outcome{nil, `a=""`}, outcome{[]int{9, 2}, `a="ab"`}, outcome{[]int{9, 3}, `a="abc"`})
}

func TestAnyChoices(t *testing.T) { // P12.9, P0.1: numbers at the ends of what an int holds
	d := loaded(t, 100, file("a", ""))
	d.Create("b")
	d.Create("c")
	d.Write("a", 0, []byte("0123456"))
	for _, c := range []int{math.MinInt, math.MinInt + 1, -8, -7, -3, -1, 0, 1, 2, 3, 7, 8, math.MaxInt - 1, math.MaxInt} {
		names, bytes := modulo(c, 3), modulo(c, 8)
		files := fmt.Sprintf("a=%q", "0123456"[:bytes])
		for _, n := range []string{"b", "c"}[:names] {
			files += fmt.Sprintf(" %s=%q", n, "")
		}
		holds(t, fmt.Sprintf("Crash(%d, %d)", c, c), d.Crash([]int{c, c}), files)
		holds(t, fmt.Sprintf("Crash(%d, %d, ..)", c, c), d.Crash(append([]int{c, c}, make([]int, 1000)...)), files)
	}
}

func TestDeadDisk(t *testing.T) { // P12.4, P12.5, P12.6, P12.8, P12.9: what a disk tells of which Crash was asked
	d := loaded(t, 100, file("a", "abc"))
	d.Write("a", 0, []byte("x"))
	d.Create("b")
	d.Sync("zz")
	d.Crash([]int{1, 1})
	for range 2 {
		if d.Acts() != 3 || d.Pending() != 2 || d.Used() != 0 || len(d.List("")) != 0 || len(d.List("a")) != 0 || len(d.Files()) != 0 {
			t.Errorf("a dead disk: Acts %d, Pending %d, Used %d, List %q", d.Acts(), d.Pending(), d.Used(), d.List(""))
		}
		for _, n := range []string{"a", "b", "zz", "", "/"} {
			b, e := d.Read(n)
			if len(b) != 0 || e != api.ErrDead {
				t.Errorf("Read(%q) of a dead disk = %q, %d", n, b, int(e))
			}
			want(t, "Create", d.Create(n), api.ErrDead)
			want(t, "Write", d.Write(n, -1, []byte("y")), api.ErrDead)
			want(t, "Sync", d.Sync(n), api.ErrDead)
			want(t, "SyncNames", d.SyncNames(), api.ErrDead)
			want(t, "Rename", d.Rename(n, "q"), api.ErrDead)
			want(t, "Rename", d.Rename("a", n), api.ErrDead)
			want(t, "Remove", d.Remove(n), api.ErrDead)
		}
		want(t, "Fail", d.Fail(1, api.ErrIO), api.ErrDead)
		outcomes(t, d, outcome{[]int{1, 1}, `a="xbc" b=""`}, outcome{nil, `a="abc"`})
	}
}

func TestCrashOfCrash(t *testing.T) { // P12.9: all that a crash leaves lasts; what is done behind it is loose again
	d := made(t, 100)
	d.Create("a")
	d.Write("a", 0, []byte("abcd"))
	x := d.Crash([]int{1, 3})
	outcomes(t, x, outcome{nil, `a="abc"`}, outcome{[]int{5, 5}, `a="abc"`})
	x = d.Crash([]int{1, 3})
	x.Write("a", 1, []byte("XYZ"))
	x.Rename("a", "b")
	if x.Pending() != 2 || x.Acts() != 2 {
		t.Errorf("Pending %d, Acts %d", x.Pending(), x.Acts())
	}
	outcomes(t, x, outcome{nil, `a="abc"`}, outcome{[]int{1, 1}, `b="aXc"`}, outcome{[]int{0, 3}, `a="aXYZ"`})
	outcomes(t, d, outcome{[]int{1, 4}, `a="abcd"`})
}

// allChoices: every way in which a crash can go, with this many names' acts and writes of these sizes at most.
func allChoices(bounds []int) [][]int {
	out := [][]int{nil}
	for _, b := range bounds {
		var longer [][]int
		for _, c := range out {
			for k := range b + 1 {
				longer = append(longer, append(slices.Clone(c), k))
			}
		}
		out = longer
	}
	return out
}

// swapSteps: a new file takes the name "f" by the way that those above lean on; beside it another file is worked on.
func swapSteps(d *disk.Disk) []func() api.Errno {
	return []func() api.Errno{
		func() api.Errno { return d.Create("f.new") },
		func() api.Errno { return d.Write("f.new", 0, []byte("NE")) },
		func() api.Errno { return d.Write("g", 0, []byte("x")) },
		func() api.Errno { return d.Write("f.new", 2, []byte("W")) },
		func() api.Errno { return d.Sync("f.new") },
		func() api.Errno { return d.Create("h") },
		func() api.Errno { return d.Rename("f.new", "f") },
		func() api.Errno { return d.SyncNames() },
		func() api.Errno { return d.Write("g", 1, []byte("yz")) },
		func() api.Errno { return d.Create("f.new") },
		func() api.Errno { return d.Write("f.new", 0, []byte("q")) },
	}
}

func TestNamedWhole(t *testing.T) { // P12.10: behind every crash at every act, with an old file and with none, the machine dying at the act or behind it
	const synced = 8 // so many acts up to SyncNames
	for _, old := range []string{"", "OLD"} {
		for steps := range len(swapSteps(nil)) + 1 {
			for _, dies := range []bool{false, true} {
				files := []disk.File{file("g", "")}
				if old != "" {
					files = append(files, file("f", old))
				}
				d := loaded(t, 100, files...)
				if dies {
					d.Fail(steps, api.ErrDead)
				}
				for i, do := range swapSteps(d)[:steps] {
					if e := do(); e != api.OK && !(dies && i == steps-1 && e == api.ErrDead) {
						t.Fatalf("step %d answers %d", i, int(e))
					}
				}
				for _, c := range allChoices([]int{3, 2, 2, 2, 2}) {
					got, e := d.Crash(c).Read("f")
					whole := string(got) == "NEW" && e == api.OK
					asBefore := string(got) == old && (e == api.OK) == (old != "")
					if steps >= synced && !whole || !whole && !asBefore {
						t.Fatalf("%d steps, Crash(%v): f reads as %q, %d", steps, c, got, int(e))
					}
				}
			}
		}
	}
}

func TestNamesAreNotShared(t *testing.T) { // P12.9: each crash gives a disk of its own
	d := made(t, 100)
	d.Create("a")
	d.Write("a", 0, []byte("abc"))
	x, y := d.Crash([]int{1, 3}), d.Crash([]int{1, 3})
	x.Write("a", 0, []byte("X"))
	x.Rename("a", "b")
	x.Sync("b")
	x.SyncNames()
	holds(t, "the other", y, `a="abc"`)
	y.Remove("a")
	y.SyncNames()
	holds(t, "the first", x, `b="Xbc"`)
	outcomes(t, d, outcome{[]int{1, 3}, `a="abc"`}, outcome{[]int{1, 1}, `a="a"`})
	outcomes(t, x, outcome{nil, `b="Xbc"`})
	outcomes(t, y, outcome{nil, ""})
}

func TestCrashOfLongWrite(t *testing.T) { // P12.9: a long write may be torn anywhere
	data := bytes.Repeat([]byte("0123456789"), 1000)
	d := made(t, 1<<20)
	d.Create("a")
	d.Write("a", 5, data)
	for _, n := range []int{0, 1, 9999, 10000, 10001, -1} {
		b, _ := d.Crash([]int{1, n}).Read("a")
		k := modulo(n, 10001)
		if k == 0 && len(b) != 0 || k > 0 && string(b) != "\x00\x00\x00\x00\x00"+string(data[:k]) {
			t.Errorf("with %d of its bytes: %d bytes", k, len(b))
		}
	}
}
