package audit

import (
	"iter"

	"ledger/api"
	"ledger/client"
	"ledger/modver"
	"ledger/note"
	"ledger/tlog"
)

const maxHeld = 65536 // records: more of them no tree in memory has

// entry: a record and its key.
type entry struct {
	key, record string
}

// entryOf: modver.ParseRecord's error, if the text is no record.
func entryOf(record string) (entry, api.Errno) {
	path, version, _, _, e := modver.ParseRecord(record)
	if e != api.OK {
		return entry{}, e
	}
	key, _ := modver.Key(path, version) // a record's path and version always make one
	return entry{key: key, record: record}, api.OK
}

// book: what was read: a signed head and all of its records. The tree is that of their leaf hashes, so that the root of the first ones costs no second going through all of them.
type book struct {
	signed
	records index[string]
	tree    *tlog.Tree
}

// newBook: in which nothing stands.
func newBook(c client.Config) book {
	none := signed{head: note.Head{Origin: c.Origin, Root: tlog.EmptyHash(c.Strength)}}
	return book{signed: none, records: newIndex[string](), tree: tlog.New(c.Strength)}
}

// has: is this the root of the first records, so many of them? Not, if there are fewer.
func (b *book) has(size int64, root api.Hash) bool {
	found, e := b.tree.Root(size)
	return e == api.OK && found == root
}

// extend: to this head, whose further records these are; false and nothing done, if all records together have not its root.
func (b *book) extend(to signed, further iter.Seq[entry]) bool {
	before := b.tree.Size()
	for e := range further {
		b.tree.Add(tlog.LeafHash(b.tree.Strength(), []byte(e.record)))
	}
	if b.tree.Size() != to.head.Size || !b.has(to.head.Size, to.head.Root) {
		b.tree.Back(before)
		return false
	}
	for e := range further {
		b.records.add(e.key, e.record)
	}
	b.signed = to
	return true
}
