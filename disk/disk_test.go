package disk_test

import (
	"bytes"
	"fmt"
	"math"
	"strings"
	"testing"

	"ledger/api"
	"ledger/disk"
)

// file: a name and a text.
func file(name, data string) disk.File { return disk.File{Name: name, Data: []byte(data)} }

func TestNew(t *testing.T) { // P12.1, P0.1: the bounds of the room
	for _, room := range []int64{0, 1, 100, 1<<40 - 1, 1 << 40} {
		d := made(t, room)
		if d.Used() != 0 || d.Acts() != 0 || d.Pending() != 0 || len(d.Files()) != 0 || len(d.List("")) != 0 {
			t.Errorf("New(%d) is not empty", room)
		}
	}
	for _, room := range []int64{-1, 1<<40 + 1, math.MinInt64, math.MaxInt64} {
		if d, e := disk.New(room); d != nil || e != api.ErrArg {
			t.Errorf("New(%d) = %v, %d", room, d != nil, int(e))
		}
		if d, e := disk.Load(room, []disk.File{file("", "x")}); d != nil || e != api.ErrArg {
			t.Errorf("Load(%d) = %v, %d", room, d != nil, int(e))
		}
	}
}

func TestRoomIsKept(t *testing.T) { // P12.1, P12.3: just so many bytes, over all files
	for _, room := range []int64{0, 1, 5, 1000} {
		d := made(t, room)
		d.Create("a")
		d.Create("b")
		if room > 0 {
			want(t, "the first byte", d.Write("b", 0, []byte("x")), api.OK)
			want(t, "one byte too many", d.Write("a", 0, make([]byte, room)), api.ErrFull)
			want(t, "the last byte", d.Write("a", 0, make([]byte, room-1)), api.OK)
		}
		want(t, "a byte more", d.Write("a", int(max(room-1, 0)), []byte("y")), api.ErrFull)
		want(t, "no bytes", d.Write("a", 1000, nil), api.OK)
		if d.Used() != room {
			t.Errorf("Used %d; want %d", d.Used(), room)
		}
	}
}

func TestLoad(t *testing.T) { // P12.2: just these files, of which nothing is loose; the order plays no part
	lists := [][]disk.File{
		{file("b", "x"), file("a/c", ""), file("a", "yz")},
		{file("a", "yz"), file("b", "x"), file("a/c", "")},
	}
	for _, l := range lists {
		d := loaded(t, 3, l...)
		holds(t, "Load", d, `a="yz" a/c="" b="x"`)
		if d.Used() != 3 || d.Acts() != 0 || d.Pending() != 0 {
			t.Errorf("Load: Used %d, Acts %d, Pending %d", d.Used(), d.Acts(), d.Pending())
		}
		holds(t, "a crash of it", d.Crash([]int{3, 3, 3}), `a="yz" a/c="" b="x"`)
	}
	if d := loaded(t, 0); len(d.Files()) != 0 {
		t.Error("Load of no files has files")
	}
}

func TestLoadRefuses(t *testing.T) { // P12.2, P0.1: each error, and the one that is named first
	long := strings.Repeat("n", 256)
	for _, c := range []struct {
		room  int64
		files []disk.File
		e     api.Errno
	}{
		{-1, []disk.File{file("a", ""), file("a", "")}, api.ErrArg},
		{9, []disk.File{file("a", ""), file("a", ""), file("b/", "")}, api.ErrFile},
		{9, []disk.File{file("", ""), file("", "")}, api.ErrFile},
		{9, []disk.File{file(long, "")}, api.ErrFile},
		{1, []disk.File{file("a", "xyz"), file("b", ""), file("b c", "")}, api.ErrFile},
		{9, []disk.File{file("a", ""), file("b", ""), file("a", "")}, api.ErrExists},
		{1, []disk.File{file("a", "xyz"), file("a", "xyz")}, api.ErrExists},
		{2, []disk.File{file("a", "xyz")}, api.ErrFull},
		{5, []disk.File{file("a", "xyz"), file("b", "xyz")}, api.ErrFull},
		{0, []disk.File{file("a", "x")}, api.ErrFull},
		{6, []disk.File{file("a", "xyz"), file("b", "xyz")}, api.OK},
		{0, []disk.File{file("a", ""), file("b", "")}, api.OK},
	} {
		if d, e := disk.Load(c.room, c.files); e != c.e || (d == nil) != (e != api.OK) {
			t.Errorf("Load(%d, %s) = %v, %d; want %d", c.room, told(c.files), d != nil, int(e), int(c.e))
		}
	}
}

func TestLoadOfMuch(t *testing.T) { // P12.2: the lengths of all files together count, above what 32 bits hold too
	data := make([]byte, 1<<20)
	var files []disk.File
	for i := range 5000 {
		files = append(files, disk.File{Name: fmt.Sprintf("f%d", i), Data: data})
	}
	if d, e := disk.Load(5000<<20-1, files); d != nil || e != api.ErrFull {
		t.Errorf("Load of a byte more than there is room = %v, %d", d != nil, int(e))
	}
	if d, e := disk.Load(5000<<20&math.MaxUint32, files); d != nil || e != api.ErrFull {
		t.Errorf("Load = %v, %d", d != nil, int(e))
	}
}

func goodNames() []string {
	return []string{"a", "a/b", "a/.../b", "a.p/1", "!x@v1", "~", "...", "..a", "a..", "a/..b/c", ".a", "a.", "a/b/c/d", "!", "\\", strings.Repeat("n", 255), strings.Repeat("n/", 127) + "n"}
}

func badNames() []string {
	return []string{"", "/", "/a", "a/", "a//b", "a///b", "//", ".", "..", "./a", "../a", "a/.", "a/..", "a/./b", "a/../b", "a b", " ", "a\x00", "\x00", "a\x1f", "a\x20", "a\x7f", "a\x80", "a\xff", "\u00e9", "a\n", "\ta", strings.Repeat("n", 256), strings.Repeat("n/", 128) + "n", strings.Repeat("n", 100000)}
}

func TestNames(t *testing.T) { // P12.3, P12.4: what is a name and what is none, in every call that takes one
	for _, n := range badNames() {
		d := loaded(t, 100, file("a", "x"))
		want(t, "Create of no name", d.Create(n), api.ErrFile)
		want(t, "Write to no name", d.Write(n, -1, nil), api.ErrFile)
		want(t, "Sync of no name", d.Sync(n), api.ErrFile)
		want(t, "Rename of no name", d.Rename(n, "a"), api.ErrFile)
		want(t, "Rename to no name", d.Rename("a", n), api.ErrFile)
		want(t, "Rename of what isn't there to no name", d.Rename("zz", n), api.ErrFile)
		want(t, "Remove of no name", d.Remove(n), api.ErrFile)
		b, e := d.Read(n)
		want(t, "Read of no name", e, api.ErrFile)
		if len(b) != 0 || d.Acts() != 7 || d.Pending() != 0 {
			t.Errorf("%.20q: Read %q, Acts %d, Pending %d", n, b, d.Acts(), d.Pending())
		}
		holds(t, "behind errors", d, `a="x"`)
	}
	for _, n := range goodNames() {
		d := made(t, 100)
		want(t, "Create", d.Create(n), api.OK)
		want(t, "Write", d.Write(n, 0, []byte("x")), api.OK)
		want(t, "Sync", d.Sync(n), api.OK)
		want(t, "Rename away", d.Rename(n, "other"), api.OK)
		want(t, "Rename back", d.Rename("other", n), api.OK)
		if b, e := d.Read(n); string(b) != "x" || e != api.OK {
			t.Errorf("Read(%.20q) = %q, %d", n, b, int(e))
		}
		want(t, "Remove", d.Remove(n), api.OK)
		loaded(t, 100, file(n, "x"))
	}
}

func TestEveryByteOfAName(t *testing.T) { // P12.3: 0x21 to 0x7e
	for c := range 256 {
		n := "a" + string([]byte{byte(c)}) + "b"
		e := api.ErrFile
		if c >= 0x21 && c <= 0x7e {
			e = api.OK
		}
		want(t, n, made(t, 0).Create(n), e)
	}
}

func TestNoFolders(t *testing.T) { // P12.3: a slash is a byte of the name
	d := made(t, 100)
	for _, n := range []string{"a/b/c", "a", "a/b"} {
		want(t, "Create("+n+")", d.Create(n), api.OK)
		want(t, "Write("+n+")", d.Write(n, 0, []byte(n)), api.OK)
	}
	want(t, "Remove(a)", d.Remove("a"), api.OK)
	want(t, "Rename(a/b, q)", d.Rename("a/b", "q"), api.OK)
	holds(t, "the others stay", d, `a/b/c="a/b/c" q="a/b"`)
}

func TestList(t *testing.T) { // P12.4: by the bytes of the names; any bytes may be the prefix
	d := made(t, 0)
	for _, n := range []string{"b", "a/c", "a", "a.p", "A", "~", "!", "a0", "ab"} {
		d.Create(n)
	}
	for prefix, list := range map[string]string{
		"": "! A a a.p a/c a0 ab b ~", "a": "a a.p a/c a0 ab", "a/": "a/c", "a/c": "a/c", "a/cc": "", "/": "", " ": "", "\xff": "", "b": "b", "..": "", "A": "A", "a\x00": "",
	} {
		if got := strings.Join(d.List(prefix), " "); got != list {
			t.Errorf("List(%q) = %q; want %q", prefix, got, list)
		}
	}
	var names []string
	for _, f := range d.Files() {
		names = append(names, f.Name)
		if len(f.Data) != 0 {
			t.Errorf("%s has bytes", f.Name)
		}
	}
	if got := strings.Join(names, " "); got != "! A a a.p a/c a0 ab b ~" {
		t.Errorf("Files in the order %q", got)
	}
}

func TestReadWhatIsThere(t *testing.T) { // P12.4: synced or not, under any name that the file has got
	d := made(t, 100)
	d.Create("a")
	d.Write("a", 0, []byte("loose"))
	for _, step := range []func(){func() {}, func() { d.Sync("a") }, func() { d.SyncNames() }} {
		step()
		if b, e := d.Read("a"); string(b) != "loose" || e != api.OK {
			t.Errorf("Read = %q, %d", b, int(e))
		}
	}
	d.Rename("a", "b")
	b, e := d.Read("a")
	if len(b) != 0 || e != api.ErrAbsent {
		t.Errorf("Read of the old name = %q, %d", b, int(e))
	}
	if b, e := d.Read("b"); !bytes.Equal(b, []byte("loose")) || e != api.OK {
		t.Errorf("Read of the new name = %q, %d", b, int(e))
	}
}
