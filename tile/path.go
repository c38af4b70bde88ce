package tile

import (
	"strconv"
	"strings"

	"ledger/api"
)

const (
	pathStart = "tile/"
	dataLevel = "data"
	partMark  = ".p/"
	maxPath   = 64 // no path has so many bytes, so a longer text need not be read
)

// Path: tile/H/L/N, or tile/H/data/N; N in groups of three digits, all but the last with an x ahead, parted by slashes; a tile that isn't full has .p/W behind it. ErrTile.
func Path(t Tile) (string, api.Errno) {
	if e := Check(t); e != api.OK {
		return "", e
	}
	level := strconv.Itoa(t.L)
	if t.Data {
		level = dataLevel
	}
	path := pathStart + strconv.Itoa(t.H) + "/" + level + "/" + groups(t.N)
	if !t.full() {
		path += partMark + strconv.Itoa(t.W)
	}
	return path, api.OK
}

// groups: a number's digits, three by three.
func groups(n int64) string {
	s := threeDigits(n % 1000)
	for n /= 1000; n > 0; n /= 1000 {
		s = "x" + threeDigits(n%1000) + "/" + s
	}
	return s
}

func threeDigits(n int64) string { return strconv.FormatInt(1000+n, 10)[1:] }

// ParsePath: of just the paths that Path gives; ErrTilePath else.
func ParsePath(s string) (Tile, api.Errno) {
	if len(s) > maxPath {
		return Tile{}, api.ErrTilePath
	}
	t := guess(s)
	if path, e := Path(t); e != api.OK || path != s {
		return Tile{}, api.ErrTilePath
	}
	return t, api.OK
}

// guess: the one tile that can have this path, if there is any: whether it has is seen by its path alone.
func guess(s string) Tile {
	parts := strings.SplitN(strings.TrimPrefix(s, pathStart), "/", 3)
	if len(parts) < 3 {
		return Tile{}
	}
	number, width, part := strings.Cut(parts[2], partMark)
	t := Tile{H: int(readNumber(parts[0])), N: readGroups(number)}
	if parts[1] == dataLevel {
		t.Data = true
	} else {
		t.L = int(readNumber(parts[1]))
	}
	if part {
		t.W = int(readNumber(width))
	} else {
		t.W = span(t.H)
	}
	return t
}

func readGroups(s string) int64 {
	return readNumber(strings.NewReplacer("x", "", "/", "").Replace(s))
}

// readNumber: -1, which none of a tile's numbers may be, of all that is no number.
func readNumber(s string) int64 {
	n, err := strconv.ParseInt(s, 10, 64)
	if err != nil {
		return -1
	}
	return n
}
