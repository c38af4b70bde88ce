package disk_test

import (
	"fmt"
	"math"
	"testing"

	"ledger/api"
	"ledger/disk"
)

func TestFailExample(t *testing.T) { // P12.8: examples 7 and 8
	d := made(t, 100)
	want(t, "Fail(2, ErrIO)", d.Fail(2, api.ErrIO), api.OK)
	want(t, "the first act", d.Create("a"), api.OK)
	want(t, "the second", d.Write("a", 0, []byte("x")), api.ErrIO)
	holds(t, "the second does nothing", d, `a=""`)
	want(t, "the third", d.Write("a", 0, []byte("x")), api.OK)
	want(t, "Fail(1, ErrIO)", d.Fail(1, api.ErrIO), api.OK)
	want(t, "an error of its own", d.Remove("zz"), api.ErrAbsent)
	want(t, "Fail is used up", d.Remove("a"), api.OK)

	d = made(t, 100)
	want(t, "Fail(1, ErrDead)", d.Fail(1, api.ErrDead), api.OK)
	want(t, "the act", d.Create("a"), api.ErrDead)
	want(t, "the next", d.Create("b"), api.ErrDead)
	if _, e := d.Read("a"); e != api.ErrDead || d.Acts() != 1 || d.Pending() != 1 || len(d.List("")) != 0 || d.Used() != 0 {
		t.Errorf("Read %d, Acts %d, Pending %d, List %q", int(e), d.Acts(), d.Pending(), d.List(""))
	}
	outcomes(t, d, outcome{[]int{1}, `a=""`}, outcome{nil, ""})
}

func TestFailRefuses(t *testing.T) { // P12.8, P0.1: every other number is no fault, on a dead disk too
	d := made(t, 100)
	for e := api.Errno(-130); e <= 230; e++ {
		if e == api.ErrIO || e == api.ErrFull || e == api.ErrDead {
			continue
		}
		for _, n := range []int{1, 0, -1} {
			want(t, fmt.Sprintf("Fail(%d, %d)", n, int(e)), d.Fail(n, e), api.ErrArg)
		}
	}
	want(t, "no act is named", d.Create("a"), api.OK)
	d.Fail(2, api.ErrFull)
	want(t, "Fail of no fault", d.Fail(1, api.ErrArg), api.ErrArg)
	want(t, "Fail of no fault", d.Fail(0, api.OK), api.ErrArg)
	want(t, "it changes nothing", d.Create("a"), api.OK)
	want(t, "the earlier one stands", d.Create("a"), api.ErrFull)
	d.Crash(nil)
	for _, e := range []api.Errno{api.ErrIO, api.ErrFull, api.ErrDead} {
		for _, n := range []int{-1, 0, 1, 5} {
			want(t, "Fail on a dead disk", d.Fail(n, e), api.ErrDead)
		}
	}
	want(t, "Fail of no fault on a dead disk", d.Fail(1, api.OK), api.ErrArg)
}

func TestFailNamesTheNth(t *testing.T) { // P12.8: just that act, once; what answers an error counts too
	for _, e := range []api.Errno{api.ErrIO, api.ErrFull} {
		for n := 1; n <= 6; n++ {
			d := made(t, 100)
			d.Create("a")
			want(t, "Fail", d.Fail(n, e), api.OK)
			for i := 1; i <= 12; i++ {
				expect := api.OK
				if i%2 == 0 {
					expect = api.ErrAbsent
				} else if i == n {
					expect = e
				}
				got := d.SyncNames
				if i%2 == 0 {
					got = func() api.Errno { return d.Sync("zz") }
				}
				want(t, fmt.Sprintf("act %d, with act %d named", i, n), got(), expect)
			}
			if d.Acts() != 13 {
				t.Errorf("Acts %d", d.Acts())
			}
		}
	}
}

func TestFailAgain(t *testing.T) { // P12.8: what an earlier Fail had named is forgotten; n below 1 names none
	d := made(t, 100)
	d.Fail(1, api.ErrDead)
	d.Fail(2, api.ErrIO)
	want(t, "the first", d.Create("a"), api.OK)
	want(t, "the second", d.Create("b"), api.ErrIO)
	for _, n := range []int{0, -1, math.MinInt} {
		d.Fail(1, api.ErrIO)
		want(t, "Fail", d.Fail(n, api.ErrFull), api.OK)
		for range 5 {
			want(t, "no act is named", d.SyncNames(), api.OK)
		}
	}
	want(t, "Fail", d.Fail(math.MaxInt, api.ErrIO), api.OK)
	for range 5 {
		want(t, "a far act is named", d.SyncNames(), api.OK)
	}
	d.Fail(3, api.ErrIO)
	d.SyncNames()
	d.Fail(2, api.ErrFull)
	want(t, "counted anew", d.SyncNames(), api.OK)
	want(t, "counted anew", d.SyncNames(), api.ErrFull)
}

func TestTellingIsNoAct(t *testing.T) { // P12.5, P12.8: what tells does not count, and Fail does not meet it
	d := loaded(t, 100, file("a", "abc"))
	d.Fail(1, api.ErrIO)
	if b, e := d.Read("a"); string(b) != "abc" || e != api.OK {
		t.Errorf("Read = %q, %d", b, int(e))
	}
	d.Read("zz")
	d.List("")
	d.Files()
	d.Used()
	d.Pending()
	if d.Acts() != 0 {
		t.Errorf("Acts %d", d.Acts())
	}
	want(t, "the first act", d.SyncNames(), api.ErrIO)
}

// sixActs: each act on a disk with the files a and b, and how it leaves files, used bytes and pending acts if it is done.
func sixActs() []struct {
	do            func(d *disk.Disk) api.Errno
	files         string
	used, pending int
} {
	return []struct {
		do            func(d *disk.Disk) api.Errno
		files         string
		used, pending int
	}{
		{func(d *disk.Disk) api.Errno { return d.Create("a") }, `a="" b="Yef"`, 3, 4},
		{func(d *disk.Disk) api.Errno { return d.Write("a", 3, []byte("zz")) }, `a="Xbczz" b="Yef"`, 8, 4},
		{func(d *disk.Disk) api.Errno { return d.Write("a", 3, nil) }, `a="Xbc" b="Yef"`, 6, 3},
		{func(d *disk.Disk) api.Errno { return d.Sync("a") }, `a="Xbc" b="Yef"`, 6, 2},
		{func(d *disk.Disk) api.Errno { return d.SyncNames() }, `a="Xbc" b="Yef"`, 6, 2},
		{func(d *disk.Disk) api.Errno { return d.Rename("a", "b") }, `b="Xbc"`, 3, 4},
		{func(d *disk.Disk) api.Errno { return d.Remove("a") }, `b="Yef"`, 3, 4},
	}
}

func sixActsDisk(t *testing.T) *disk.Disk {
	d := loaded(t, 100, file("a", "abc"), file("b", "def"))
	d.Write("a", 0, []byte("X"))
	d.Write("b", 0, []byte("Y"))
	d.Rename("a", "a")
	return d
}

func TestEachActFails(t *testing.T) { // P12.3, P12.8: with ErrIO and ErrFull nothing is done, and it can be done again
	for i, a := range sixActs() {
		for _, e := range []api.Errno{api.ErrIO, api.ErrFull} {
			d := sixActsDisk(t)
			d.Fail(1, e)
			want(t, fmt.Sprintf("act %d", i), a.do(d), e)
			holds(t, "a failed act", d, `a="Xbc" b="Yef"`)
			if d.Used() != 6 || d.Pending() != 3 || d.Acts() != 4 {
				t.Errorf("a failed act %d: Used %d, Pending %d, Acts %d", i, d.Used(), d.Pending(), d.Acts())
			}
			want(t, fmt.Sprintf("act %d again", i), a.do(d), api.OK)
			holds(t, fmt.Sprintf("act %d done", i), d, a.files)
			if int(d.Used()) != a.used || d.Pending() != a.pending || d.Acts() != 5 {
				t.Errorf("act %d done: Used %d, Pending %d, Acts %d", i, d.Used(), d.Pending(), d.Acts())
			}
		}
	}
}

func TestEachActDies(t *testing.T) { // P12.8, P12.9: with ErrDead it is done, and a crash finds what it would find had it answered OK
	for i, a := range sixActs() {
		d, like := sixActsDisk(t), sixActsDisk(t)
		d.Fail(1, api.ErrDead)
		want(t, fmt.Sprintf("act %d", i), a.do(d), api.ErrDead)
		a.do(like)
		if d.Pending() != a.pending || d.Acts() != 4 || d.Used() != 0 || len(d.Files()) != 0 {
			t.Errorf("act %d: Pending %d, Acts %d, Used %d", i, d.Pending(), d.Acts(), d.Used())
		}
		for _, c := range allChoices([]int{2, 1, 1, 2}) {
			holds(t, fmt.Sprintf("act %d, Crash(%v)", i, c), d.Crash(c), told(like.Crash(c).Files()))
		}
	}
}

func TestOwnErrorAheadOfFail(t *testing.T) { // P12.3, P12.8: with ErrDead too: the disk lives on, and Fail is used up
	for _, e := range []api.Errno{api.ErrIO, api.ErrFull, api.ErrDead} {
		for i, a := range []struct {
			e  api.Errno
			do func(d *disk.Disk) api.Errno
		}{
			{api.ErrFile, func(d *disk.Disk) api.Errno { return d.Create("/") }},
			{api.ErrFile, func(d *disk.Disk) api.Errno { return d.Write("/", 0, nil) }},
			{api.ErrAbsent, func(d *disk.Disk) api.Errno { return d.Write("c", 0, nil) }},
			{api.ErrArg, func(d *disk.Disk) api.Errno { return d.Write("a", -1, nil) }},
			{api.ErrFull, func(d *disk.Disk) api.Errno { return d.Write("a", 0, make([]byte, 101)) }},
			{api.ErrFile, func(d *disk.Disk) api.Errno { return d.Sync("/") }},
			{api.ErrAbsent, func(d *disk.Disk) api.Errno { return d.Sync("c") }},
			{api.ErrFile, func(d *disk.Disk) api.Errno { return d.Rename("a", "/") }},
			{api.ErrAbsent, func(d *disk.Disk) api.Errno { return d.Rename("c", "a") }},
			{api.ErrFile, func(d *disk.Disk) api.Errno { return d.Remove("/") }},
			{api.ErrAbsent, func(d *disk.Disk) api.Errno { return d.Remove("c") }},
		} {
			d := loaded(t, 100, file("a", "abc"))
			d.Fail(1, e)
			want(t, fmt.Sprintf("act %d", i), a.do(d), a.e)
			want(t, "the next act", d.SyncNames(), api.OK)
			holds(t, "behind it", d, `a="abc"`)
			if d.Acts() != 2 || d.Pending() != 0 {
				t.Errorf("Acts %d, Pending %d", d.Acts(), d.Pending())
			}
		}
	}
}

func TestNoFaultBehindCrash(t *testing.T) { // P12.9: Fail has named none of the new disk's acts
	d := made(t, 100)
	d.Fail(1, api.ErrIO)
	x := d.Crash(nil)
	want(t, "the first act", x.Create("a"), api.OK)
	x.Fail(1, api.ErrIO)
	y := d.Crash(nil)
	want(t, "the first act of another", y.Create("a"), api.OK)
	want(t, "the named act", x.Create("a"), api.ErrIO)
}
