package client

import (
	"slices"

	"ledger/api"
	"ledger/proof"
	"ledger/tile"
	"ledger/tlog"
)

const hashSize = 32

// plan: the tiles that have to be read, with what the cache has of them; none, if the new head can be taken as it is. (The sizes are those of heads and the id is below them, so that no call refuses them; and no tree has so many ranges that there are too many places.)
func (t *task) plan() {
	size := t.great.head.Size
	if t.hasProof() {
		peaks, _ := tlog.Peaks(t.small.head.Size)
		lists, _ := proof.TreePlaces(size, t.small.head.Size)
		t.lists = append([][]int64{peaks}, lists...)
	}
	t.compared = len(t.lists)
	if t.lookup != nil {
		lists, _ := proof.RecordPlaces(size, t.lookup.id)
		t.lists = append(t.lists, lists...)
	} else if t.compared == 0 {
		return
	}
	tiles, _ := tile.Plan(t.session.config.Height, size, slices.Concat(t.lists...))
	for _, x := range tiles {
		data, e := t.session.files.Tile(x)
		t.pieces = append(t.pieces, piece{tile: x, data: data, cached: e == api.OK})
	}
}

// missing: the targets of the tiles that have no bytes.
func (t *task) missing() []string {
	var targets []string
	for _, p := range t.pieces {
		if len(p.data) == 0 {
			path, _ := tile.Path(p.tile)
			targets = append(targets, "/"+path)
		}
	}
	return targets
}

// read: if it fails, the cached tiles may be at fault: they are fetched like the others, and then no tile is cached and it is not tried again.
func (t *task) read(answers [][]byte) error {
	if err := t.fill(answers); err != nil {
		return err
	}
	if len(t.pieces) == 0 {
		return nil
	}
	err := t.check()
	if err != nil && t.dropCached() {
		t.phases = slices.Insert(t.phases, 0, phase{want: t.missing, take: t.read})
		return nil
	}
	return err
}

// fill: each answer is that to the next tile that has no bytes.
func (t *task) fill(answers [][]byte) error {
	for i := range t.pieces {
		p := &t.pieces[i]
		if len(p.data) > 0 {
			continue
		}
		body, err := t.session.config.look(answers[0])
		if err != nil {
			return err
		}
		if len(body) != hashSize*p.tile.W {
			return api.ErrBody
		}
		p.data, answers = body, answers[1:]
	}
	return nil
}

// check: the hashes of the places, borne out by the greater head's root, each list of them folded.
func (t *task) check() error {
	var tiles []tile.Tile
	var datas [][]byte
	for _, p := range t.pieces {
		tiles, datas = append(tiles, p.tile), append(datas, p.data)
	}
	k, great := t.session.config.Strength, t.great.head
	hashes, e := tile.Read(k, t.session.config.Height, great.Size, great.Root, tiles, datas, slices.Concat(t.lists...))
	if e != api.OK {
		return e
	}
	for _, list := range t.lists {
		t.folds = append(t.folds, tlog.Fold(k, hashes[:len(list)]))
		hashes = hashes[len(list):]
	}
	return nil
}

// dropCached: false, if there is none. A tile that the cache can't drop is fetched all the same.
func (t *task) dropCached() bool {
	dropped := false
	for i := range t.pieces {
		p := &t.pieces[i]
		if p.cached {
			t.session.files.Drop(p.tile)
			p.cached, p.data, dropped = false, nil, true
		}
	}
	return dropped
}
