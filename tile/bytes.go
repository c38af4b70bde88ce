package tile

import (
	"slices"

	"ledger/api"
	"ledger/tlog"
)

// maxStored: how many stored hashes the greatest tree has that is held in memory.
const maxStored = 131071

const hashSize = len(api.Hash{})

// FromTree: the hashes of a tile, one behind the other, out of a tree's stored hashes. ErrTile (or a data tile), ErrLong, ErrStored, ErrOutside.
func FromTree(stored []api.Hash, t Tile) ([]byte, api.Errno) {
	if e := checkHashes(t); e != api.OK {
		return nil, e
	}
	if len(stored) > maxStored {
		return nil, api.ErrLong
	}
	size, e := tlog.Records(int64(len(stored)))
	if e != api.OK {
		return nil, e
	}
	in := layout{t.H, size}
	if t.W > in.width(t.L, t.N) {
		return nil, api.ErrOutside
	}
	var data []byte
	for i := range int64(t.W) {
		place, _ := tlog.Index(t.H*t.L, t.N<<t.H+i)
		data = append(data, stored[place][:]...)
	}
	return data, api.OK
}

// Inside: the stored hash of a place out of a tile's bytes. ErrTile (or a data tile), ErrWidth, ErrOutside (there is no such place, or it isn't below the tile's root: its own root is found in the tile above).
func Inside(k int, t Tile, data []byte, place int64) (api.Hash, api.Errno) {
	if e := checkHashes(t); e != api.OK {
		return api.Hash{}, e
	}
	if !fits(t, data) {
		return api.Hash{}, api.ErrWidth
	}
	r, ok := runOf(t.H, place)
	if !ok || !r.within(t) {
		return api.Hash{}, api.ErrOutside
	}
	return r.hash(k, data), api.OK
}

// fits: has the data the length of this hash tile's bytes?
func fits(t Tile, data []byte) bool { return len(data) == hashSize*t.W }

// hash: of the run's node, out of the bytes of a tile that has the whole run.
func (r run) hash(k int, data []byte) api.Hash {
	return joined(k, data[hashSize*r.from:hashSize*r.tile.W])
}

// joined: the hash of the node above all of these hashes, whose number is a power of two.
func joined(k int, data []byte) api.Hash {
	var hashes []api.Hash
	for piece := range slices.Chunk(data, hashSize) {
		hashes = append(hashes, api.Hash(piece))
	}
	for len(hashes) > 1 {
		half := len(hashes) / 2
		for i := range half { // what lies at i has been joined by then
			hashes[i] = tlog.NodeHash(k, hashes[2*i], hashes[2*i+1])
		}
		hashes = hashes[:half]
	}
	return hashes[0]
}
