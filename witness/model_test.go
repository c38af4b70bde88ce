package witness_test

import (
	"bytes"
	"encoding/hex"
	"fmt"
	"regexp"
	"slices"
	"strings"
	"testing"

	"ledger/api"
	"ledger/disk"
	"ledger/note"
	"ledger/proof"
	"ledger/tlog"
	"ledger/witness"
)

// act: one of a disk's six.
type act struct {
	kind, name, to string
	data           []byte
}

func play(d *disk.Disk, a act) api.Errno {
	switch a.kind {
	case "create":
		return d.Create(a.name)
	case "write":
		return d.Write(a.name, 0, a.data)
	case "sync":
		return d.Sync(a.name)
	case "rename":
		return d.Rename(a.name, a.to)
	case "remove":
		return d.Remove(a.name)
	}
	return d.SyncNames()
}

// playAll: up to the first act that answers an error.
func playAll(d *disk.Disk, acts []act) api.Errno {
	for _, a := range acts {
		if e := play(d, a); e != api.OK {
			return e
		}
	}
	return api.OK
}

// book: the chapter's words about a witness, said again over a disk of its own.
type book struct {
	d    *disk.Disk
	name string
	c    witness.Config
	last map[string]note.Head
}

func (b *book) file(origin string) string {
	return "witness/" + b.name + "/" + hex.EncodeToString([]byte(origin))
}

func goodConfig(c witness.Config) bool {
	_, e := note.ParseSigner(c.Signer)
	good := e == api.OK && len(c.Logs) <= 16
	seen := map[string]int{}
	for _, l := range c.Logs {
		_, e := note.ParseVerifier(l.Verifier)
		seen[l.Origin]++
		good = good && e == api.OK && note.CheckName(l.Origin) == api.OK && seen[l.Origin] == 1
	}
	return good
}

// openBook: P21.1.
func openBook(d *disk.Disk, name string, c witness.Config) (*book, api.Errno) {
	if !regexp.MustCompile(`\A[a-z0-9]{1,30}\z`).MatchString(name) {
		return nil, api.ErrFile
	}
	if !goodConfig(c) {
		return nil, api.ErrConfig
	}
	if _, e := d.Read("any"); e == api.ErrDead {
		return nil, e
	}
	c.Logs = slices.Clone(c.Logs)
	b := &book{d: d, name: name, c: c, last: map[string]note.Head{}}
	files := map[string]string{}
	var acts []act
	for _, f := range d.Files() { // in the order of their names
		files[f.Name] = string(f.Data)
		if strings.HasPrefix(f.Name, "witness/"+name+"/") && strings.HasSuffix(f.Name, ".new") {
			acts = append(acts, act{kind: "remove", name: f.Name})
		}
	}
	for _, l := range c.Logs {
		b.last[l.Origin] = note.Head{Origin: l.Origin, Root: tlog.EmptyHash(c.Strength)}
		data, there := files[b.file(l.Origin)]
		if !there {
			continue
		}
		h, e := note.ParseHead(data)
		if e != api.OK || h.Origin != l.Origin || h.Size < 1 {
			return nil, api.ErrBroken
		}
		b.last[l.Origin] = h
	}
	if e := playAll(d, append(acts, act{kind: "sync names"})); e != api.OK {
		return nil, e
	}
	return b, api.OK
}

func (b *book) verifier(origin string) (string, bool) {
	for _, l := range b.c.Logs {
		if l.Origin == origin {
			return l.Verifier, true
		}
	}
	return "", false
}

// cosign: P21.3, number by number.
func (b *book) cosign(head []byte, old int64, path []api.Hash) ([]byte, api.Errno) {
	if len(head) > 65536 || len(path) > 64 { // 1
		return nil, api.ErrLong
	}
	text, _, e := note.Split(head) // 2
	if e != api.OK {
		return nil, api.ErrNote
	}
	h, e := note.ParseHead(text) // 3
	if e != api.OK {
		return nil, api.ErrHead
	}
	verifier, known := b.verifier(h.Origin) // 4
	if !known {
		return nil, api.ErrOrigin
	}
	n, r, m, q, k := h.Size, h.Root, b.last[h.Origin].Size, b.last[h.Origin].Root, b.c.Strength
	if _, e := note.Open(head, []string{verifier}); e != api.OK { // 5
		return nil, e
	}
	if n == 0 && r != tlog.EmptyHash(k) { // 6
		return nil, api.ErrHead
	}
	if old < 0 || old > n { // 7
		return nil, api.ErrArg
	}
	if old != m { // 8
		return nil, api.ErrConflict
	}
	if e := goesOn(k, path, n, r, m, q); e != api.OK { // 9
		return nil, e
	}
	message, ok := withSignature(head, b.c.Signer)
	if !ok { // 10
		return nil, api.ErrLong
	}
	if n > m { // 11
		f := b.file(h.Origin)
		e := playAll(b.d, []act{{kind: "create", name: f + ".new"}, {kind: "write", name: f + ".new", data: []byte(text)}, {kind: "sync", name: f + ".new"}, {kind: "rename", name: f + ".new", to: f}, {kind: "sync names"}})
		if e != api.OK {
			return nil, e
		}
		b.last[h.Origin] = h
	}
	return message, api.OK
}

// goesOn: P21.3, number 9.
func goesOn(k int, path []api.Hash, n int64, r api.Hash, m int64, q api.Hash) api.Errno {
	if m == n || m == 0 {
		if len(path) > 0 {
			return api.ErrProofLength
		}
		if m == n && r != q {
			return api.ErrProof
		}
		return api.OK
	}
	a, b, e := proof.ClimbTree(k, path, n, m, q)
	if e != api.OK {
		return api.ErrProofLength
	}
	if a != r || b != q {
		return api.ErrProof
	}
	return api.OK
}

// withSignature: the note's other lines, and the signer's own behind them; false, where that is above the bounds.
func withSignature(message []byte, signer string) ([]byte, bool) {
	body, lines, _ := bytes.Cut(message, []byte("\n\n")) // a head's text has no empty line
	text := string(body) + "\n"
	own, e := note.Sign(text, []string{signer})
	if e != api.OK {
		panic(e)
	}
	mine := strings.TrimPrefix(string(own), text+"\n")
	s, _ := note.ParseSigner(signer)
	var out []string
	for line := range strings.Lines(string(lines)) {
		_, sigs, _ := note.Split([]byte("x\n\n" + line))
		if sigs[0].Name != s.Name || sigs[0].Hash != s.Hash {
			out = append(out, line)
		}
	}
	all := text + "\n" + strings.Join(append(out, mine), "")
	return []byte(all), len(all) <= 65536 && len(out)+1 <= 16
}

// answer: P21.4.
func (b *book) answer(ask []byte) (int, string) {
	old, path, head, ok := parts(ask)
	if !ok {
		return 400, "bad request\n"
	}
	m, e := b.cosign(head, old, path)
	switch e {
	case api.OK:
		return 200, string(m)
	case api.ErrLong, api.ErrNote, api.ErrHead, api.ErrArg:
		return 400, "bad request\n"
	case api.ErrSignature, api.ErrUnsigned:
		return 403, "forbidden\n"
	case api.ErrOrigin:
		return 404, "not found\n"
	case api.ErrConflict:
		text, _, _ := note.Split(head)
		return 409, fmt.Sprintln(b.last[text[:strings.Index(text, "\n")]].Size)
	case api.ErrProofLength, api.ErrProof:
		return 422, "unprocessable\n"
	case api.ErrIO, api.ErrFull, api.ErrDead:
		return 500, "internal error\n"
	}
	panic(e)
}

// pair: a witness on its disk, and a book on a twin of it. Whatever is done to one is done to the other.
type pair struct {
	t       *testing.T
	c       witness.Config
	d, twin *disk.Disk
	w       *witness.Witness
	b       *book
}

func newPair(t *testing.T, c witness.Config, room int64, files ...disk.File) *pair {
	t.Helper()
	d, e := disk.Load(room, files)
	twin, f := disk.Load(room, files)
	if e != api.OK || f != api.OK {
		t.Fatal(e, f)
	}
	return &pair{t: t, c: c, d: d, twin: twin}
}

// pairOf: a pair that is open and has cosigned the trunk's heads of these sizes.
func pairOf(t *testing.T, sizes ...int64) *pair {
	t.Helper()
	p := newPair(t, config(), room)
	p.open("w")
	old := int64(0)
	for _, n := range sizes {
		if e := p.cosign(trunk().signed(n), old, trunk().path(old, n)); e != api.OK {
			t.Fatal(e)
		}
		old = n
	}
	return p
}

func (p *pair) fail(n int, e api.Errno) {
	p.d.Fail(n, e)
	p.twin.Fail(n, e)
}

func (p *pair) crash(choices []int) {
	p.t.Helper()
	p.d, p.twin = p.d.Crash(choices), p.twin.Crash(choices)
	p.w, p.b = nil, nil
	p.agree("Crash")
}

// agree: both disks tell the same, and the witness the heads of the book.
func (p *pair) agree(what string) {
	p.t.Helper()
	if got, want := told(p.d.Files()), told(p.twin.Files()); got != want {
		p.t.Fatalf("%s: the disk has the files\n%s; want\n%s", what, got, want)
	}
	if p.d.Acts() != p.twin.Acts() || p.d.Pending() != p.twin.Pending() || p.d.Used() != p.twin.Used() {
		p.t.Fatalf("%s: %d acts, %d pending, %d used; want %d, %d, %d", what, p.d.Acts(), p.d.Pending(), p.d.Used(), p.twin.Acts(), p.twin.Pending(), p.twin.Used())
	}
	if p.w == nil {
		return
	}
	for _, o := range []string{origin, "log.other", "é", "", "else", file} {
		h, ok := p.w.Head(o)
		if last, known := p.b.last[o]; h != last || ok != known {
			p.t.Fatalf("%s: Head(%q) = %+v, %v; want %+v, %v", what, o, h, ok, last, known)
		}
	}
}

// agreeBehindCrashes: it ends both disks.
func (p *pair) agreeBehindCrashes(what string) {
	p.t.Helper()
	p.agree(what)
	for n := range p.twin.Pending() + 1 {
		for _, part := range []int{0, 1, -1} {
			choices := []int{n, part, part, part}
			if got, want := told(p.d.Crash(choices).Files()), told(p.twin.Crash(choices).Files()); got != want {
				p.t.Fatalf("%s: a crash of %v leaves\n%s; want\n%s", what, choices, got, want)
			}
		}
	}
}

// open: the pair goes on with what was open before, if there is an error.
func (p *pair) open(name string) api.Errno {
	p.t.Helper()
	w, got := witness.Open(p.d, name, p.c)
	b, e := openBook(p.twin, name, p.c)
	if got != e || (w == nil) != (e != api.OK) {
		p.t.Fatalf("Open(%q) = %v, %d; want %d", name, w != nil, int(got), int(e))
	}
	if e == api.OK {
		p.w, p.b = w, b
	}
	p.agree("Open")
	return e
}

func (p *pair) cosign(head []byte, old int64, path []api.Hash) api.Errno {
	p.t.Helper()
	got, e := p.w.Cosign(head, old, path)
	m, f := p.b.cosign(head, old, path)
	if e != f || string(got) != string(m) {
		p.t.Fatalf("Cosign(%.200q, %d, %d hashes) = %q, %d; want %q, %d", head, old, len(path), got, int(e), m, int(f))
	}
	p.agree("Cosign")
	return e
}

func (p *pair) answer(ask []byte) int {
	p.t.Helper()
	status, body := p.w.Answer(ask)
	want, words := p.b.answer(ask)
	if status != want || string(body) != words {
		p.t.Fatalf("Answer(%.200q) = %d, %q; want %d, %q", ask, status, body, want, words)
	}
	p.agree("Answer")
	return status
}
