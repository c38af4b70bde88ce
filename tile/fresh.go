package tile

import "ledger/api"

// maxTiles: so many are told at once, and no more.
const maxTiles = 65536

// All: the hash tiles of a tree of size records, each at its full width in that tree; level by level from 0 on, by number in a level. ErrArg; ErrLong, if there would be more than 65536.
func All(h int, size int64) ([]Tile, api.Errno) { return Fresh(h, 0, size) }

// Fresh: those of All(h, size) that are not in All(h, old). ErrArg (old below 0 or above size); ErrLong, if there would be more than 65536.
func Fresh(h int, old, size int64) ([]Tile, api.Errno) {
	before, now := layout{h, old}, layout{h, size}
	if !now.mayBe() || old < 0 || old > size {
		return nil, api.ErrArg
	}
	count := int64(0)
	for l := 0; now.nodes(l) > before.nodes(l); l++ {
		from, to := news(before, now, l)
		count += to - from
	}
	if count > maxTiles {
		return nil, api.ErrLong
	}
	tiles := make([]Tile, 0, count)
	for l := 0; now.nodes(l) > before.nodes(l); l++ {
		from, to := news(before, now, l)
		for n := from; n < to; n++ {
			tiles = append(tiles, now.whole(l, n))
		}
	}
	return tiles, api.OK
}

// news: the numbers, the last one not among them, of the tiles that have changed at a level that has grown: from the first one that was not full up to the end.
func news(before, now layout, l int) (from, to int64) {
	last := now.nodes(l) - 1
	return before.nodes(l) >> now.h, last>>now.h + 1
}
