package store

import (
	"errors"
	"slices"

	"ledger/api"
	"ledger/disk"
	"ledger/tile"
)

// gaveUp: an act of the disk has answered an error, and no act behind it is to be done.
type gaveUp struct{ answer api.Errno }

func (g gaveUp) Error() string { return "store: gave up at an act: " + g.answer.Error() }

func (g gaveUp) Unwrap() error { return g.answer }

// must: gives up where an act was not answered with OK. Only what attempt is handed may ask for it.
func must(answer api.Errno) {
	if answer != api.OK {
		panic(gaveUp{answer})
	}
}

// attempt: OK, or the answer of the act at which the acts gave up. A panic that is none of an act's is a fault of the program: it goes on.
func attempt(acts func()) (e api.Errno) {
	defer func() {
		r := recover()
		if r == nil {
			return
		}
		if err, ok := r.(error); ok {
			if errors.As(err, &e) {
				return
			}
		}
		panic(r)
	}()
	acts()
	return api.OK
}

// lay: a file with these bytes, which last.
func lay(d *disk.Disk, name string, data []byte) {
	must(d.Create(name))
	must(d.Write(name, 0, data))
	must(d.Sync(name))
}

// layHead: the head is written under another name, so that behind every crash the old one or the new one is there, whole.
func layHead(d *disk.Disk, head []byte) {
	lay(d, newHead, head)
	must(d.Rename(newHead, headName))
	must(d.SyncNames())
}

// put: the entries join the log once the commit is done; else the log stays as it was, and the store is shut.
func (s *Store) put(added []entry) api.Errno {
	old := s.Size()
	s.log.add(added)
	hashTiles, _ := tile.Fresh(s.log.config.Height, old, s.Size())
	fresh := withData(hashTiles)
	head := s.log.signed()
	if e := attempt(func() { s.commit(fresh, head) }); e != api.OK {
		s.log.takeBack(added)
		s.shut = true
		return e
	}
	s.log.head = head
	s.tidy(fresh, old)
	return api.OK
}

// commit: the tiles lie there whole ahead of the head that asks for them.
func (s *Store) commit(fresh []tile.Tile, head []byte) {
	for _, t := range fresh {
		lay(s.disk, pathOf(t), s.log.bytes(t))
	}
	layHead(s.disk, head)
}

// tidy: takes away the tiles that have grown since the log had old records. What the acts answer changes nothing: Open finds what they leave.
func (s *Store) tidy(fresh []tile.Tile, old int64) {
	var names []string
	for _, t := range fresh {
		t.W = s.log.widthAt(t, old)
		if t.W > 0 {
			names = append(names, pathOf(t))
		}
	}
	slices.Sort(names)
	for _, name := range names {
		s.disk.Remove(name)
	}
}
