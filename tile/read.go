package tile

import (
	"cmp"
	"slices"

	"ledger/api"
	"ledger/tlog"
)

// What may be asked at once, and handed in for it.
const (
	maxPlaces = 1024
	maxRead   = 4096
)

// Plan: the hash tiles, each at its full width in the tree of size records, that are needed to read the stored hashes of these places against the root: those with the tree's peaks, those with the places, and, above each full one, the one that holds its root. Level by level from the highest down, by number in a level, each once. ErrArg (h, size below 0 or above MaxRecords), ErrLong (more than 1024 places), ErrOutside (a place that the tree hasn't).
func Plan(h int, size int64, places []int64) ([]Tile, api.Errno) {
	in := layout{h, size}
	if !in.mayBe() {
		return nil, api.ErrArg
	}
	if len(places) > maxPlaces {
		return nil, api.ErrLong
	}
	count, _ := tlog.Count(size)
	for _, place := range places {
		if place < 0 || place >= count {
			return nil, api.ErrOutside
		}
	}
	peaks, _ := tlog.Peaks(size)
	return inOrder(in.needed(slices.Concat(peaks, places))), api.OK
}

// needed: the tiles in which the places are, and all that bear them out but for the peaks'.
func (lay layout) needed(places []int64) map[Tile]struct{} {
	tiles := map[Tile]struct{}{}
	for _, place := range places {
	climb:
		for t := lay.holding(place); ; t = lay.above(t) {
			_, there := tiles[t]
			tiles[t] = struct{}{}
			switch {
			case there:
				break climb // those above it came with it
			case !t.full():
				break climb // the peaks bear it out
			}
		}
	}
	return tiles
}

// holding: the tile, at full width, in which one of the tree's places is.
func (lay layout) holding(place int64) Tile {
	r, _ := runOf(lay.h, place)
	return lay.whole(r.tile.L, r.tile.N)
}

// above: the tile in which the top of a full one is.
func (lay layout) above(t Tile) Tile { return lay.whole(t.L+1, t.N>>lay.h) }

// inOrder: from the highest level down, in a level by number.
func inOrder(tiles map[Tile]struct{}) []Tile {
	list := make([]Tile, 0, len(tiles))
	for t := range tiles {
		list = append(list, t)
	}
	slices.SortFunc(list, func(a, b Tile) int {
		return cmp.Or(cmp.Compare(b.L, a.L), cmp.Compare(a.N, b.N))
	})
	return list
}

// reading: the bytes of a plan's tiles, of a tree whose hashes have strength k.
type reading struct {
	layout
	k     int
	datas map[Tile][]byte
}

// Read: the stored hashes of these places, each checked. Tiles and their bytes go pairwise (ErrCount, if their numbers part; ErrLong above 4096 tiles); of two of the same numbers the first counts, and what Plan doesn't ask for is not looked at. Errors of Plan, then along Plan: ErrMissing, ErrWidth, ErrAuth (the peaks don't fold to the root; a full tile's root isn't the hash that stands above it). Of a tree of no records the root must be the empty one: else ErrAuth.
func Read(k, h int, size int64, root api.Hash, tiles []Tile, datas [][]byte, places []int64) ([]api.Hash, api.Errno) {
	if len(datas) != len(tiles) {
		return nil, api.ErrCount
	}
	if len(tiles) > maxRead {
		return nil, api.ErrLong
	}
	plan, e := Plan(h, size, places)
	if e != api.OK {
		return nil, e
	}
	picked, e := pick(plan, tiles, datas)
	if e != api.OK {
		return nil, e
	}
	r := reading{layout{h, size}, k, picked}
	if r.root() != root || !r.topsHold() {
		return nil, api.ErrAuth
	}
	return r.hashes(places), api.OK
}

// pick: the data of each tile of a plan.
func pick(plan, tiles []Tile, datas [][]byte) (map[Tile][]byte, api.Errno) {
	first := firstOfEach(tiles)
	picked := map[Tile][]byte{}
	for _, t := range plan {
		i, there := first[t]
		if !there {
			return nil, api.ErrMissing
		}
		if !fits(t, datas[i]) {
			return nil, api.ErrWidth
		}
		picked[t] = datas[i]
	}
	return picked, api.OK
}

// firstOfEach: where each tile stands in the list first.
func firstOfEach(tiles []Tile) map[Tile]int {
	first := map[Tile]int{}
	for i, t := range slices.Backward(tiles) {
		first[t] = i
	}
	return first
}

// root: that to which the peaks lead.
func (r reading) root() api.Hash {
	peaks, _ := tlog.Peaks(r.size)
	return tlog.Fold(r.k, r.hashes(peaks))
}

// topsHold: is the top of each full tile the hash that stands above it?
func (r reading) topsHold() bool {
	for t, data := range r.datas {
		if t.full() && joined(r.k, data) != r.hash(topPlace(t)) {
			return false
		}
	}
	return true
}

func topPlace(t Tile) int64 {
	place, _ := tlog.Index(t.H*(t.L+1), t.N)
	return place
}

// hashes: those stored at places whose tiles are in the plan.
func (r reading) hashes(places []int64) []api.Hash {
	list := make([]api.Hash, len(places))
	for i, place := range places {
		list[i] = r.hash(place)
	}
	return list
}

func (r reading) hash(place int64) api.Hash {
	of, _ := runOf(r.h, place)
	return of.hash(r.k, r.datas[r.holding(place)])
}
