package store_test

import (
	"bytes"
	"fmt"
	"slices"
	"strings"
	"testing"

	"ledger/api"
	"ledger/disk"
	"ledger/store"
	"ledger/tile"
)

// act: one of a disk's six.
type act struct {
	kind, name, to string
	data           []byte
}

func play(d *disk.Disk, a act) api.Errno {
	switch a.kind {
	case "create":
		return d.Create(a.name)
	case "write":
		return d.Write(a.name, 0, a.data)
	case "sync":
		return d.Sync(a.name)
	case "rename":
		return d.Rename(a.name, a.to)
	case "remove":
		return d.Remove(a.name)
	}
	return d.SyncNames()
}

// playAll: up to the first act that answers an error.
func playAll(d *disk.Disk, acts []act) api.Errno {
	for _, a := range acts {
		if e := play(d, a); e != api.OK {
			return e
		}
	}
	return api.OK
}

func layActs(f disk.File) []act {
	return []act{{kind: "create", name: f.Name}, {kind: "write", name: f.Name, data: f.Data}, {kind: "sync", name: f.Name}}
}

func headActs(head []byte) []act {
	return append(layActs(disk.File{Name: "head.new", Data: head}), act{kind: "rename", name: "head.new", to: "head"}, act{kind: "sync names"})
}

// removeActs: of all files that are the store's by name and not among these; d.List tells them in the order of their bytes.
func removeActs(d *disk.Disk, stay []disk.File) []act {
	var acts []act
	for _, n := range d.List("") {
		own := n == "head" || n == "head.new" || strings.HasPrefix(n, "tile/")
		if own && !slices.ContainsFunc(stay, func(f disk.File) bool { return f.Name == n }) {
			acts = append(acts, act{kind: "remove", name: n})
		}
	}
	return acts
}

// commitActs: P13.5, the fresh tiles told as those of the new tree that the old one has not.
func commitActs(c store.Config, old, next []string) []act {
	before := allTiles(c.Height, len(old))
	var acts []act
	fresh := slices.DeleteFunc(allTiles(c.Height, len(next)), func(t tile.Tile) bool { return slices.Contains(before, t) })
	for _, f := range tileFiles(c, next, fresh) {
		acts = append(acts, layActs(f)...)
	}
	return append(acts, headActs(signedHead(c, next))...)
}

// tidyActs: P13.6.
func tidyActs(c store.Config, old, next []string) []act {
	now := filesOf(c, next)
	var acts []act
	for _, f := range filesOf(c, old) { // sorted
		if !slices.ContainsFunc(now, func(g disk.File) bool { return g.Name == f.Name }) {
			acts = append(acts, act{kind: "remove", name: f.Name})
		}
	}
	return acts
}

// pair: a disk with a store, and a twin of the disk on which the test does the acts that the chapter names. Whatever is done to one is done to the other.
type pair struct {
	t       *testing.T
	c       store.Config
	d, twin *disk.Disk
	s       *store.Store
	log     []string   // what the store has to tell
	shut    bool       // whether it has to be
	logs    [][]string // that may be found on the disk: those of which a commit was begun
}

func newPair(t *testing.T, c store.Config, room int64, files ...disk.File) *pair {
	t.Helper()
	d, e := disk.Load(room, files)
	twin, f := disk.Load(room, files)
	if e != api.OK || f != api.OK {
		t.Fatal(e, f)
	}
	return &pair{t: t, c: c, d: d, twin: twin, logs: [][]string{nil}}
}

func (p *pair) fail(n int, e api.Errno) {
	p.d.Fail(n, e)
	p.twin.Fail(n, e)
}

func (p *pair) crash(choices []int) {
	p.d, p.twin = p.d.Crash(choices), p.twin.Crash(choices)
	p.agree("Crash")
	p.s, p.log, p.shut = nil, nil, false
}

// agree: both disks tell the same, and every crash of theirs leaves the same, as far as a few tell it.
func (p *pair) agree(what string) {
	p.t.Helper()
	if got, want := told(p.d.Files()), told(p.twin.Files()); got != want {
		p.t.Fatalf("%s: the disk has the files\n%s; want\n%s", what, got, want)
	}
	if p.d.Acts() != p.twin.Acts() || p.d.Pending() != p.twin.Pending() || p.d.Used() != p.twin.Used() {
		p.t.Fatalf("%s: %d acts, %d pending, %d used; want %d, %d, %d", what, p.d.Acts(), p.d.Pending(), p.d.Used(), p.twin.Acts(), p.twin.Pending(), p.twin.Used())
	}
}

// agreeBehindCrashes: it ends both disks.
func (p *pair) agreeBehindCrashes(what string) {
	p.t.Helper()
	p.agree(what)
	for n := range p.twin.Pending() + 1 {
		for _, part := range []int{0, 1, -1} {
			choices := []int{n, part, part, part, part}
			if got, want := told(p.d.Crash(choices).Files()), told(p.twin.Crash(choices).Files()); got != want {
				p.t.Fatalf("%s: a crash of %v leaves\n%s; want\n%s", what, choices, got, want)
			}
		}
	}
}

func (p *pair) create() api.Errno {
	p.t.Helper()
	e := api.OK
	if _, f := p.twin.Read("head"); f == api.ErrDead {
		e = f
	} else if f == api.OK {
		e = api.ErrHasLog
	} else {
		e = playAll(p.twin, append(removeActs(p.twin, nil), headActs(signedHead(p.c, nil))...))
	}
	s, got := store.Create(p.d, p.c)
	p.opened("Create", s, got, e, nil)
	return got
}

// found: the log whose files the twin has, of those that it may have.
func (p *pair) found() ([]string, bool) {
	for _, log := range p.logs {
		all := true
		for _, f := range filesOf(p.c, log) {
			data, e := p.twin.Read(f.Name)
			all = all && e == api.OK && bytes.Equal(data, f.Data)
		}
		if all {
			return log, true
		}
	}
	return nil, false
}

func (p *pair) open() api.Errno {
	p.t.Helper()
	e := api.OK
	var log []string
	if _, f := p.twin.Read("head"); f == api.ErrDead {
		e = f
	} else if f == api.ErrAbsent {
		e = api.ErrNoLog
	} else if l, ok := p.found(); !ok {
		e = api.ErrBroken
	} else {
		log = l
		e = playAll(p.twin, append(removeActs(p.twin, filesOf(p.c, log)), act{kind: "sync names"}))
	}
	s, got := store.Open(p.d, p.c)
	p.opened("Open", s, got, e, log)
	return got
}

func (p *pair) opened(what string, s *store.Store, got, e api.Errno, log []string) {
	p.t.Helper()
	if got != e || (s == nil) != (e != api.OK) {
		p.t.Fatalf("%s = %v, %d; want %d", what, s != nil, int(got), int(e))
	}
	p.agree(what)
	if s == nil {
		return
	}
	p.s, p.log, p.shut = s, log, false
	p.tells(what)
}

func (p *pair) tells(what string) {
	p.t.Helper()
	isLog(p.t, what, p.s, p.c, p.log)
	if p.s.Shut() != p.shut {
		p.t.Fatalf("%s: Shut %v; want %v", what, p.s.Shut(), p.shut)
	}
}

// append: of records, all of which are such; they fit in.
func (p *pair) append(records ...string) api.Errno {
	p.t.Helper()
	next, ids, e := slices.Clone(p.log), []int64(nil), api.OK
	for _, r := range records {
		id := slices.IndexFunc(next, func(there string) bool { return keyIn(there) == keyIn(r) })
		if id < 0 {
			id = len(next)
			next = append(next, r)
		}
		ids = append(ids, int64(id))
	}
	if p.shut {
		e = api.ErrShut
	} else if len(next) > len(p.log) {
		p.logs = append(p.logs, next)
		e = playAll(p.twin, commitActs(p.c, p.log, next))
	}
	if e != api.OK {
		ids, p.shut = nil, true
	} else {
		for _, a := range tidyActs(p.c, p.log, next) {
			play(p.twin, a)
		}
		p.log = next
	}
	got, answer := p.s.Append(records)
	what := fmt.Sprintf("Append of %d records", len(records))
	if answer != e || !slices.Equal(got, ids) {
		p.t.Fatalf("%s = %v, %d; want %v, %d", what, got, int(answer), ids, int(e))
	}
	p.agree(what)
	p.tells(what)
	return answer
}
