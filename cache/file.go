package cache

import (
	"ledger/api"
	"ledger/tile"
)

// What stands ahead of a cache's name in the names of its files, and behind it in those of its head.
const (
	cacheStart = "cache/"
	headName   = "head"
	newHead    = "head.new"
)

const (
	maxName  = 30
	hashSize = 32
)

func isName(s string) bool {
	if len(s) < 1 || len(s) > maxName {
		return false
	}
	for i := range len(s) {
		if !isNameByte(s[i]) {
			return false
		}
	}
	return true
}

func isNameByte(b byte) bool { return b >= 'a' && b <= 'z' || b >= '0' && b <= '9' }

// numbers: what tiles have in common that differ in their widths alone.
type numbers struct {
	h, l int
	n    int64
}

func numbersOf(t tile.Tile) numbers { return numbers{t.H, t.L, t.N} }

// checkHashes: tile.Check, and ErrTile of a data tile too.
func checkHashes(t tile.Tile) api.Errno {
	if t.Data {
		return api.ErrTile
	}
	return tile.Check(t)
}

// isLength: has the data so many bytes as a hash tile of this width?
func isLength(data []byte, t tile.Tile) bool { return len(data) == hashSize*t.W }

// fileOf: the name of the file of a hash tile whose numbers may be.
func (c *Cache) fileOf(t tile.Tile) string {
	path, _ := tile.Path(t)
	return c.folder + path
}

// tileOf: the hash tile of which this is the file's name; false, if there is none.
func (c *Cache) tileOf(file string) (tile.Tile, bool) {
	t, e := tile.ParsePath(file[len(c.folder):])
	return t, e == api.OK && !t.Data
}

// remove: takes a file away; that somebody else has done so is as good.
func (c *Cache) remove(file string) api.Errno {
	e := c.disk.Remove(file)
	if e == api.ErrAbsent {
		return api.OK
	}
	return e
}
