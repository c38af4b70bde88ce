package store

import (
	"strings"

	"ledger/api"
	"ledger/disk"
	"ledger/tile"
)

// The store's names: these two, and all that begin with tileStart.
const (
	headName  = "head"
	newHead   = "head.new"
	tileStart = "tile/"
)

func isStoreName(name string) bool {
	return name == headName || name == newHead || strings.HasPrefix(name, tileStart)
}

// pathOf: of a tile whose numbers may be.
func pathOf(t tile.Tile) string {
	path, _ := tile.Path(t)
	return path
}

// withData: these hash tiles, and behind them the data tiles of those that are of level 0.
func withData(tiles []tile.Tile) []tile.Tile {
	var all, datas []tile.Tile
	for _, t := range tiles {
		all = append(all, t)
		if t.L == 0 {
			t.Data = true
			datas = append(datas, t)
		}
	}
	return append(all, datas...)
}

// hasFile: is this the name of one of the log's files?
func (l *log) hasFile(name string) bool {
	if name == headName {
		return true
	}
	t, e := tile.ParsePath(name)
	return e == api.OK && t == l.whole(t)
}

// removeBeyond: takes away all that has one of the store's names and is no file of the log.
func removeBeyond(d *disk.Disk, l *log) {
	for _, name := range d.List("") {
		if isStoreName(name) && !l.hasFile(name) {
			must(d.Remove(name))
		}
	}
}
