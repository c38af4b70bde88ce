package store_test

import (
	"testing"

	"ledger/api"
	"ledger/disk"
	"ledger/store"
)

// leftovers: files of the store's names, of a log that is none, and files that are not the store's.
func leftovers() []disk.File {
	var out []disk.File
	for _, name := range []string{"head.new", "tile/1/0/000", "tile/1/0/000.p/1", "tile/x", "tile/1/data/000.p/1", "tile/1/10/000.p/1", "tile/1/2/000.p/1", "tile/z/y/x", "other", "headx", "head.newer", "head.", "heads/head", "cache/a/head", "tile.x", "tilex/1", "tile", "Tile/1", "a/tile/1/0/000", "~"} {
		out = append(out, disk.File{Name: name, Data: []byte(name)})
	}
	return out
}

func TestCreateDoesTheseActs(t *testing.T) { // P13.2: on an empty disk and over leftovers, each act in its turn, whichever fails and however
	for _, files := range [][]disk.File{nil, leftovers()} {
		for _, fault := range []api.Errno{api.ErrIO, api.ErrFull, api.ErrDead} {
			for n := 0; n <= 15; n++ {
				p := newPair(t, config(1), room, files...)
				p.fail(n, fault)
				acts := 5
				if files != nil {
					acts = 13
				}
				e := p.create()
				if failed := n >= 1 && n <= acts; failed && e != fault || !failed && e != api.OK || !failed && p.d.Acts() != acts {
					t.Errorf("Create with act %d failing = %d, %d acts", n, int(e), p.d.Acts())
				}
				p.agreeBehindCrashes("Create")
			}
		}
	}
}

func TestCreateLeavesOthersAlone(t *testing.T) { // P13.2: names that only look like the store's
	d := loaded(t, leftovers())
	if _, e := store.Create(d, config(1)); e != api.OK {
		t.Fatal(e)
	}
	if want := "Tile/1 a/tile/1/0/000 cache/a/head head head. head.newer heads/head headx other tile tile.x tilex/1 ~"; names(d) != want {
		t.Errorf("behind Create there are %s; want %s", names(d), want)
	}
	for _, f := range d.Files() {
		if f.Name != "head" && string(f.Data) != f.Name {
			t.Errorf("%s is changed: %q", f.Name, f.Data)
		}
	}
}

func TestCreateRefuses(t *testing.T) { // P13.2, P0.1: ErrDead ahead of ErrHasLog; whatever the file head holds; nothing is changed
	for _, head := range []string{"", "x", string(signedHead(config(1), nil))} {
		files := append(leftovers(), disk.File{Name: "head", Data: []byte(head)})
		p := newPair(t, config(1), room, files...)
		want(t, "Create where there is a head", p.create(), api.ErrHasLog)
		if p.d.Acts() != 0 {
			t.Errorf("%d acts", p.d.Acts())
		}
		p.d.Crash(nil)
		p.twin.Crash(nil)
		want(t, "Create on a dead disk", p.create(), api.ErrDead)
	}
}

func TestCreateNeedsRoom(t *testing.T) { // P13.2: the disk's own error
	c := config(1)
	need := int64(len(signedHead(c, nil)))
	want(t, "Create with too little room", newPair(t, c, need-1).create(), api.ErrFull)
	want(t, "Create with just the room", newPair(t, c, need).create(), api.OK)
	p := newPair(t, c, need, disk.File{Name: "tile/x", Data: make([]byte, need)})
	want(t, "Create over leftovers that fill the disk", p.create(), api.OK)
}

func TestCreateBehindAFailedOne(t *testing.T) { // P13.2, P13.3: what a failed Create leaves is no log, or one without records
	for n := 1; n <= 5; n++ {
		p := newPair(t, config(2), room)
		p.fail(n, api.ErrIO)
		p.create()
		if n < 5 {
			want(t, "Open", p.open(), api.ErrNoLog)
			want(t, "Create again", p.create(), api.OK)
		} else {
			want(t, "Create again", p.create(), api.ErrHasLog)
			want(t, "Open", p.open(), api.OK)
		}
		want(t, "Append", p.append(rec(0)), api.OK)
	}
}
