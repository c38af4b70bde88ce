package audit

import (
	"bytes"
	"iter"
	"slices"

	"ledger/api"
	"ledger/client"
	"ledger/tile"
)

const (
	latestTarget = "/latest"
	groupSize    = 64 // tiles that are wanted at a time
)

// ask: a request that is wanted as long as it has no answer.
type ask struct {
	target string
	answer []byte
}

// reading: the way from what was read to the log's latest head.
type reading struct {
	asks  []ask
	group []tile.Tile // for which the asks are; none, as long as the head is wanted
	left  []tile.Tile // that are wanted when those have come
	to    signed      // the head
	next  int64       // the id of the record that the next tile begins with
	fresh []entry     // the records that have come and were not read ahead
}

func newReading() *reading { return &reading{asks: []ask{{target: latestTarget}}} }

// open: the asks that have no answer yet.
func (r *reading) open() []*ask {
	var open []*ask
	for i := range r.asks {
		if len(r.asks[i].answer) == 0 {
			open = append(open, &r.asks[i])
		}
	}
	return open
}

// askOn: for the next group of tiles; for nothing, if none is left.
func (r *reading) askOn() {
	size := min(groupSize, len(r.left))
	r.group, r.left = r.left[:size], r.left[size:]
	r.asks = nil
	for _, t := range r.group {
		path, _ := tile.Path(t)
		r.asks = append(r.asks, ask{target: "/" + path})
	}
}

// dataTiles: those in which the records from one id up to another stand.
func dataTiles(height int, from, to int64) []tile.Tile {
	width := int64(1) << height
	var tiles []tile.Tile
	for n := from / width; n*width < to; n++ {
		tiles = append(tiles, tile.Tile{H: height, N: n, W: int(min(width, to-n*width)), Data: true})
	}
	return tiles
}

// records: of the tiles that have come, one by one; behind an error there are none. An answer is looked at when all records ahead of it have been taken, so the first fault is the first error.
func (r *reading) records(c client.Config) iter.Seq2[entry, api.Errno] {
	return func(yield func(entry, api.Errno) bool) {
		for i, t := range r.group {
			records, e := cutAnswer(c, t, r.asks[i].answer)
			if e != api.OK {
				yield(entry{}, e)
				return
			}
			for _, record := range records {
				found, e := entryOf(string(record))
				if !yield(found, e) || e != api.OK {
					return
				}
			}
		}
	}
}

func cutAnswer(c client.Config, t tile.Tile, answer []byte) ([][]byte, api.Errno) {
	body, e := look(c, answer)
	if e != api.OK {
		return nil, e
	}
	records, e := tile.Cut(body, t.W)
	if e != api.OK {
		return nil, api.ErrBody
	}
	return records, api.OK
}

// keep: what is too long is refused by its length, whatever else it holds: so no more of it is kept than shows that.
func (a *ask) keep(answer []byte, limit int) {
	a.answer = bytes.Clone(answer[:min(len(answer), limit+1)])
}

// goOn: once all answers have come, to the next wants or to the end.
func (a *Auditor) goOn() {
	if len(a.reading.open()) > 0 {
		return
	}
	if e := a.take(); e != api.OK || len(a.reading.asks) == 0 {
		a.end(e)
	}
}

func (a *Auditor) end(e api.Errno) {
	a.reading, a.last = nil, e
}

func (a *Auditor) take() api.Errno {
	if len(a.reading.group) == 0 {
		return a.takeHead()
	}
	return a.takeTiles()
}

// takeHead: of a head that isn't greater than the one that was read all is known already.
func (a *Auditor) takeHead() api.Errno {
	r := a.reading
	body, e := look(a.config, r.asks[0].answer)
	if e != api.OK {
		return e
	}
	to, e := readHead(a.config, body)
	if e != api.OK {
		return e
	}
	size := a.read.head.Size
	switch {
	case to.head.Size > maxHeld:
		return api.ErrLong
	case to.head.Size > size:
		r.to, r.left = to, dataTiles(a.config.Height, size, to.head.Size)
		r.next = r.left[0].N << a.config.Height
	case !a.read.has(to.head.Size, to.head.Root):
		return api.ErrFork
	}
	r.askOn()
	return api.OK
}

// takeTiles: nothing counts as read ahead of the last tile: only all records together can be held against the head.
func (a *Auditor) takeTiles() api.Errno {
	r := a.reading
	for found, e := range r.records(a.config) {
		if e != api.OK {
			return e
		}
		if r.next >= a.read.head.Size {
			r.fresh = append(r.fresh, found)
		} else if found.record != a.read.records.at(r.next) {
			return api.ErrAuth
		}
		r.next++
	}
	r.askOn()
	if len(r.asks) == 0 && !a.read.extend(r.to, slices.Values(r.fresh)) {
		return api.ErrAuth
	}
	return api.OK
}
