package store

import (
	"ledger/api"
	"ledger/modver"
	"ledger/note"
	"ledger/tile"
	"ledger/tlog"
)

// entry: a record, and the key by which it is found.
type entry struct{ key, record string }

func entryOf(record string) (entry, api.Errno) {
	path, version, _, _, e := modver.ParseRecord(record)
	if e != api.OK {
		return entry{}, e
	}
	key, e := modver.Key(path, version)
	return entry{key, record}, e
}

// entriesOf: the first error of a record, if one has any.
func entriesOf(records []string) ([]entry, api.Errno) {
	entries := make([]entry, len(records))
	for i, record := range records {
		x, e := entryOf(record)
		if e != api.OK {
			return nil, e
		}
		entries[i] = x
	}
	return entries, api.OK
}

// log: what is known of a log, the disk apart.
type log struct {
	config  Config
	records []string
	ids     map[string]int64 // of the records, by key
	tree    *tlog.Tree
	head    []byte // signed; it stays as it was until the acts are done that a new one asks for
}

// newLog: without records, its head not yet signed.
func newLog(c Config) *log {
	return &log{config: c, ids: map[string]int64{}, tree: tlog.New(c.Strength)}
}

func (l *log) size() int64 { return int64(len(l.records)) }

func (l *log) root() api.Hash {
	root, _ := l.tree.Root(l.size())
	return root
}

// signed: the signed head of the records that there are now. No step can fail under a config that was checked.
func (l *log) signed() []byte {
	text, _ := note.FormatHead(note.Head{Origin: l.config.Origin, Size: l.size(), Root: l.root()})
	head, _ := note.Sign(text, []string{l.config.Signer})
	return head
}

// assign: the id that each entry has or is to get, and the entries that are to be put in, in the order of their ids.
func (l *log) assign(entries []entry) (ids []int64, added []entry) {
	given := map[string]int64{}
	for _, x := range entries {
		id, known := l.ids[x.key]
		if !known {
			id, known = given[x.key]
		}
		if !known {
			id = l.size() + int64(len(added))
			given[x.key] = id
			added = append(added, x)
		}
		ids = append(ids, id)
	}
	return ids, added
}

// add: entries with keys that the log doesn't have join it.
func (l *log) add(added []entry) {
	for _, x := range added {
		l.ids[x.key] = l.size()
		l.records = append(l.records, x.record)
		l.tree.Add(tlog.LeafHash(l.config.Strength, []byte(x.record)))
	}
}

// takeBack: undoes add.
func (l *log) takeBack(added []entry) {
	for _, x := range added {
		delete(l.ids, x.key)
	}
	l.records = l.records[:len(l.records)-len(added)]
	l.tree.Back(l.size())
}

// whole: the tile of the same numbers with the width that it has in this log; 0, if the log has no such tile.
func (l *log) whole(t tile.Tile) tile.Tile {
	t.W = l.widthAt(t, l.size())
	return t
}

// widthAt: how wide the tile was, or is, when the log has so many records.
func (l *log) widthAt(t tile.Tile, size int64) int {
	if t.H != l.config.Height {
		return 0
	}
	w, _ := tile.Width(t.H, t.L, t.N, size)
	return w
}

// bytes: of a tile that the log has, at its full width or narrower.
func (l *log) bytes(t tile.Tile) []byte {
	if t.Data {
		return l.dataBytes(t)
	}
	return l.hashBytes(t)
}

func (l *log) dataBytes(t tile.Tile) []byte {
	first := t.N << t.H
	var records [][]byte
	for _, record := range l.records[first : first+int64(t.W)] {
		records = append(records, []byte(record))
	}
	data, _ := tile.Join(records)
	return data
}

// hashBytes: what tile.FromTree answers, without copying all stored hashes for each tile.
func (l *log) hashBytes(t tile.Tile) []byte {
	places := make([]int64, t.W)
	for i := range places {
		places[i], _ = tlog.Index(t.H*t.L, t.N<<t.H+int64(i))
	}
	hashes, _ := l.tree.Hashes(places)
	var data []byte
	for _, h := range hashes {
		data = append(data, h[:]...)
	}
	return data
}
