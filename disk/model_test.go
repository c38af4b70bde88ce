package disk_test

import (
	"fmt"
	"math/big"
	"regexp"
	"slices"
	"strings"
	"testing"

	"ledger/api"
	"ledger/disk"
)

// deed: an act that was done, as a book keeps it.
type deed struct {
	kind     string // create, write, sync, sync names, rename, remove
	name, to string
	file     int // the file that the act made, wrote to or synced
	at       int
	data     string
}

// book: all that was done to a disk since it was made. It keeps no files and no names: each answer is read off the deeds anew, by the chapter's words.
type book struct {
	room  int64
	first map[string]int // the names as they were laid
	bytes []string       // the files' bytes as they were laid; a file's number is its place
	deeds []deed
	files int
	acts  int
	until int
	fault api.Errno
	dead  bool
}

func newBook(room int64, files []disk.File) *book {
	b := &book{room: room, first: map[string]int{}}
	for _, f := range files {
		b.first[f.Name] = b.files
		b.bytes = append(b.bytes, string(f.Data))
		b.files++
	}
	return b
}

var nameForm = regexp.MustCompile(`^[!-~]{1,255}$`)
var badPiece = regexp.MustCompile(`(^|/)\.{0,2}(/|$)`)

func trueName(s string) bool { return nameForm.MatchString(s) && !badPiece.MatchString(s) }

func isNamesAct(a deed) bool { return slices.Contains([]string{"create", "rename", "remove"}, a.kind) }

func isWrite(a deed) bool { return a.kind == "write" && a.data != "" }

// apply: the names behind these deeds.
func apply(names map[string]int, deeds []deed) map[string]int {
	out := map[string]int{}
	for n, f := range names {
		out[n] = f
	}
	for _, a := range deeds {
		switch a.kind {
		case "create":
			out[a.name] = a.file
		case "remove":
			delete(out, a.name)
		case "rename":
			f := out[a.name]
			delete(out, a.name)
			out[a.to] = f
		}
	}
	return out
}

func (b *book) names() map[string]int { return apply(b.first, b.deeds) }

// over: what a file reads as when data is laid over it.
func over(old string, at int, data string) string {
	if data == "" {
		return old
	}
	if len(old) < at {
		old += strings.Repeat("\x00", at-len(old))
	}
	end := at + len(data)
	if end >= len(old) {
		return old[:at] + data
	}
	return old[:at] + data + old[end:]
}

// content: the bytes of a file behind these deeds.
func (b *book) content(file int, deeds []deed) string {
	s := ""
	if file < len(b.bytes) {
		s = b.bytes[file]
	}
	for _, a := range deeds {
		if a.kind == "write" && a.file == file {
			s = over(s, a.at, a.data)
		}
	}
	return s
}

// behindLast: the number of deeds up to the last one of this kind, of this file if one is asked for.
func (b *book) behindLast(kind string, file int) int {
	for i := len(b.deeds) - 1; i >= 0; i-- {
		if b.deeds[i].kind == kind && (file < 0 || b.deeds[i].file == file) {
			return i + 1
		}
	}
	return 0
}

func (b *book) read(name string) string { return b.content(b.names()[name], b.deeds) }

func (b *book) used() int64 {
	n := 0
	for _, f := range b.names() {
		n += len(b.content(f, b.deeds))
	}
	return int64(n)
}

// looseNames: the names when SyncNames was last done, and the names' acts since.
func (b *book) looseNames() (map[string]int, []deed) {
	k := b.behindLast("sync names", -1)
	var loose []deed
	for _, a := range b.deeds[k:] {
		if isNamesAct(a) {
			loose = append(loose, a)
		}
	}
	return apply(b.first, b.deeds[:k]), loose
}

func (b *book) pending() int {
	base, loose := b.looseNames()
	told := map[int]bool{}
	for k := range len(loose) + 1 {
		for _, f := range apply(base, loose[:k]) {
			told[f] = true
		}
	}
	for _, f := range b.names() {
		told[f] = true
	}
	n := len(loose)
	for i, a := range b.deeds {
		if isWrite(a) && told[a.file] && i >= b.behindLast("sync", a.file) {
			n++
		}
	}
	return n
}

// modulo: by the chapter's words, with numbers that have no bounds.
func modulo(c, m int) int {
	return int(new(big.Int).Mod(big.NewInt(int64(c)), big.NewInt(int64(m))).Int64())
}

// crash: what a crash with these choices leaves.
func (b *book) crash(choices []int) []disk.File {
	choice := func() int {
		if len(choices) == 0 {
			return 0
		}
		c := choices[0]
		choices = choices[1:]
		return c
	}
	base, loose := b.looseNames()
	names := apply(base, loose[:modulo(choice(), len(loose)+1)])
	left := map[int]string{}
	for _, f := range names {
		left[f] = b.content(f, b.deeds[:b.behindLast("sync", f)])
	}
	for i, a := range b.deeds {
		if _, named := left[a.file]; isWrite(a) && named && i >= b.behindLast("sync", a.file) {
			left[a.file] = over(left[a.file], a.at, a.data[:modulo(choice(), len(a.data)+1)])
		}
	}
	var out []disk.File
	for n, f := range names {
		out = append(out, disk.File{Name: n, Data: []byte(left[f])})
	}
	slices.SortFunc(out, func(x, y disk.File) int { return strings.Compare(x.Name, y.Name) })
	return out
}

func (b *book) filesNow() []disk.File {
	var out []disk.File
	for n, f := range b.names() {
		out = append(out, disk.File{Name: n, Data: []byte(b.content(f, b.deeds))})
	}
	slices.SortFunc(out, func(x, y disk.File) int { return strings.Compare(x.Name, y.Name) })
	return out
}

// own: the error that an act has of its own.
func (b *book) own(a deed) api.Errno {
	names := b.names()
	_, there := names[a.name]
	switch a.kind {
	case "sync names":
		return api.OK
	case "rename":
		if !trueName(a.to) {
			return api.ErrFile
		}
	}
	if !trueName(a.name) {
		return api.ErrFile
	}
	if a.kind == "create" {
		return api.OK
	}
	if !there {
		return api.ErrAbsent
	}
	if a.kind == "write" {
		if a.at < 0 || a.at > 1048576 {
			return api.ErrArg
		}
		now := b.content(names[a.name], b.deeds)
		will := b.used() - int64(len(now)) + int64(len(over(now, a.at, a.data)))
		if will > b.room && will > b.used() {
			return api.ErrFull
		}
	}
	return api.OK
}

// do: what an act answers; it is entered if it is done.
func (b *book) do(a deed) api.Errno {
	if b.dead {
		return api.ErrDead
	}
	b.acts++
	b.until--
	own := b.own(a)
	if own != api.OK {
		return own
	}
	if b.until == 0 && b.fault != api.ErrDead {
		return b.fault
	}
	a.file = b.names()[a.name]
	if a.kind == "create" {
		a.file = b.files
		b.files++
	}
	b.deeds = append(b.deeds, a)
	if b.until == 0 {
		b.dead = true
		return api.ErrDead
	}
	return api.OK
}

func (b *book) fail(n int, e api.Errno) api.Errno {
	if e != api.ErrIO && e != api.ErrFull && e != api.ErrDead {
		return api.ErrArg
	}
	if b.dead {
		return api.ErrDead
	}
	b.until, b.fault = n, e
	if n < 1 {
		b.until = 0 // it falls below 0 and never comes back
	}
	return api.OK
}

// play: the same act on the disk.
func play(d *disk.Disk, a deed) api.Errno {
	switch a.kind {
	case "create":
		return d.Create(a.name)
	case "write":
		return d.Write(a.name, a.at, []byte(a.data))
	case "sync":
		return d.Sync(a.name)
	case "sync names":
		return d.SyncNames()
	case "rename":
		return d.Rename(a.name, a.to)
	}
	return d.Remove(a.name)
}

// told: files as one text.
func told(files []disk.File) string {
	var s []string
	for _, f := range files {
		s = append(s, fmt.Sprintf("%s=%q", f.Name, f.Data))
	}
	return strings.Join(s, " ")
}

// agree: all that the disk tells is what the book tells.
func agree(t *testing.T, d *disk.Disk, b *book, names []string) {
	t.Helper()
	if d.Acts() != b.acts || d.Pending() != b.pending() {
		t.Errorf("Acts %d, Pending %d; want %d, %d", d.Acts(), d.Pending(), b.acts, b.pending())
	}
	if b.dead {
		if d.Used() != 0 || len(d.Files()) != 0 || len(d.List("")) != 0 {
			t.Errorf("a dead disk tells Used %d, Files %s, List %q", d.Used(), told(d.Files()), d.List(""))
		}
	} else {
		if d.Used() != b.used() || told(d.Files()) != told(b.filesNow()) {
			t.Errorf("Used %d, Files %s; want %d, %s", d.Used(), told(d.Files()), b.used(), told(b.filesNow()))
		}
	}
	for _, name := range names {
		agreeName(t, d, b, name)
	}
}

func agreeName(t *testing.T, d *disk.Disk, b *book, name string) {
	t.Helper()
	want, e := "", api.OK
	_, there := b.names()[name]
	switch {
	case b.dead:
		e = api.ErrDead
	case !trueName(name):
		e = api.ErrFile
	case !there:
		e = api.ErrAbsent
	default:
		want = b.read(name)
	}
	if got, ge := d.Read(name); string(got) != want || ge != e {
		t.Errorf("Read(%q) = %q, %d; want %q, %d", name, got, int(ge), want, int(e))
	}
	var list []string
	for _, f := range b.filesNow() {
		if !b.dead && len(f.Name) >= len(name) && f.Name[:len(name)] == name {
			list = append(list, f.Name)
		}
	}
	if got := d.List(name); !slices.Equal(got, list) {
		t.Errorf("List(%q) = %q; want %q", name, got, list)
	}
}

// made: a new disk.
func made(t *testing.T, room int64) *disk.Disk {
	t.Helper()
	d, e := disk.New(room)
	if d == nil || e != api.OK {
		t.Fatalf("New(%d) = %v, %d", room, d != nil, int(e))
	}
	return d
}

// loaded: a disk with these files.
func loaded(t *testing.T, room int64, files ...disk.File) *disk.Disk {
	t.Helper()
	d, e := disk.Load(room, files)
	if d == nil || e != api.OK {
		t.Fatalf("Load(%d, %s) = %v, %d", room, told(files), d != nil, int(e))
	}
	return d
}

// want: an answer that should be this one.
func want(t *testing.T, what string, got, e api.Errno) {
	t.Helper()
	if got != e {
		t.Errorf("%s = %d; want %d", what, int(got), int(e))
	}
}

// holds: the disk has just these files, told as text.
func holds(t *testing.T, what string, d *disk.Disk, files string) {
	t.Helper()
	if got := told(d.Files()); got != files {
		t.Errorf("%s: %s; want %s", what, got, files)
	}
}
