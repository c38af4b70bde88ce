package cache

import (
	"ledger/api"
	"ledger/tile"
)

// takeUp: makes entries of the good files, as many as there is room for.
func (c *Cache) takeUp() {
	good := c.goodTiles()
	widest := make(map[numbers]int, len(good))
	for _, t := range good {
		widest[numbersOf(t)] = max(widest[numbersOf(t)], t.W)
	}
	for _, t := range good {
		if c.count() == c.room {
			return
		}
		if t.W == widest[numbersOf(t)] {
			c.use(numbersOf(t), t)
		}
	}
}

// goodTiles: those of the good files, in the order of the files' names.
func (c *Cache) goodTiles() []tile.Tile {
	var good []tile.Tile
	for _, file := range c.disk.List(c.folder) {
		t, ok := c.tileOf(file)
		if !ok {
			continue
		}
		if data, e := c.disk.Read(file); e == api.OK && isLength(data, t) {
			good = append(good, t)
		}
	}
	return good
}

// tidy: takes away all files but the head's and the entries'. The names are synced even if there are none: the head that Open tells has to last, and an earlier SetHead may have failed at just that.
func (c *Cache) tidy() api.Errno {
	for _, file := range c.disk.List(c.folder) {
		if c.stays(file) {
			continue
		}
		if e := c.remove(file); e != api.OK {
			return e
		}
	}
	return c.disk.SyncNames()
}

func (c *Cache) stays(file string) bool {
	if file == c.folder+headName {
		return true
	}
	t, ok := c.tileOf(file)
	if !ok {
		return false
	}
	held, ok := c.find(numbersOf(t))
	return ok && held == t
}

// makeWay: takes away the entry that may not stay when t comes: a narrower one of the same numbers; if there is none of these, and no room, the one used longest ago.
func (c *Cache) makeWay(t tile.Tile) api.Errno {
	held, ok := c.find(numbersOf(t))
	switch {
	case ok && held.W < t.W:
		return c.drop(held)
	case !ok && c.count() == c.room:
		return c.drop(c.oldest())
	}
	return api.OK
}

// drop: an entry goes with its file, or stays with it.
func (c *Cache) drop(held tile.Tile) api.Errno {
	if e := c.remove(c.fileOf(held)); e != api.OK {
		return e
	}
	c.forget(numbersOf(held))
	return api.OK
}

// lay: the tile is an entry once its file is whole. Between the two acts it is none, for the file has no bytes then.
func (c *Cache) lay(t tile.Tile, data []byte) api.Errno {
	file := c.fileOf(t)
	if e := c.disk.Create(file); e != api.OK {
		return e
	}
	c.forget(numbersOf(t))
	if e := c.disk.Write(file, 0, data); e != api.OK {
		return e
	}
	c.use(numbersOf(t), t)
	return api.OK
}
