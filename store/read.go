package store

import (
	"bytes"

	"ledger/api"
	"ledger/disk"
	"ledger/note"
	"ledger/tile"
)

// readLog: the log whose files the disk has, head among them; false, if there is none. The head is believed as to its size alone: it is held against the one that the records make.
func readLog(d *disk.Disk, c Config, head []byte) (*log, bool) {
	size, ok := sizeOf(head)
	if !ok {
		return nil, false
	}
	l := newLog(c)
	tiles, _ := tile.All(c.Height, size)
	for _, t := range tiles {
		if t.L == 0 && !l.readData(d, t) {
			return nil, false
		}
	}
	l.head = l.signed()
	if !bytes.Equal(l.head, head) {
		return nil, false
	}
	for _, t := range tiles {
		if found, e := d.Read(pathOf(t)); e != api.OK || !bytes.Equal(found, l.bytes(t)) {
			return nil, false
		}
	}
	return l, true
}

// sizeOf: what the bytes say, if they are a note with a head in it whose size a log may have.
func sizeOf(head []byte) (int64, bool) {
	text, _, e := note.Split(head)
	if e != api.OK {
		return 0, false
	}
	h, e := note.ParseHead(text)
	return h.Size, e == api.OK && h.Size <= maxHeld
}

// readData: the records of the data tile beside a hash tile join the log; false, if the file isn't one of records whose keys are new. It is then just what the log asks for: Cut takes nothing else.
func (l *log) readData(d *disk.Disk, t tile.Tile) bool {
	t.Data = true
	data, e := d.Read(pathOf(t))
	if e != api.OK {
		return false
	}
	records, e := tile.Cut(data, t.W)
	if e != api.OK {
		return false
	}
	for _, record := range records {
		x, e := entryOf(string(record))
		if _, known := l.ids[x.key]; known || e != api.OK {
			return false
		}
		l.add([]entry{x})
	}
	return true
}
