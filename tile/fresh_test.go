package tile_test

import (
	"math"
	"math/rand"
	"slices"
	"testing"

	"ledger/api"
	"ledger/tile"
)

func allIs(t *testing.T, h int, size int64, want []tile.Tile, errno api.Errno) {
	t.Helper()
	if l, e := tile.All(h, size); !slices.Equal(l, want) || e != errno {
		t.Errorf("All(%d, %d) = %d tiles, %d, want %d tiles, %d", h, size, len(l), int(e), len(want), int(errno))
	}
}

func freshIs(t *testing.T, h int, old, size int64, want []tile.Tile, errno api.Errno) {
	t.Helper()
	if l, e := tile.Fresh(h, old, size); !slices.Equal(l, want) || e != errno {
		t.Errorf("Fresh(%d, %d, %d) = %d tiles, %d, want %d tiles, %d", h, old, size, len(l), int(e), len(want), int(errno))
	}
}

func TestAllOfTheExamples(t *testing.T) { // P10.6
	allIs(t, 2, 7, []tile.Tile{at(2, 0, 0, 4), at(2, 0, 1, 3), at(2, 1, 0, 1)}, api.OK)
	allIs(t, 1, 3, []tile.Tile{at(1, 0, 0, 2), at(1, 0, 1, 1), at(1, 1, 0, 1)}, api.OK)
	allIs(t, 8, 0, nil, api.OK)
	allIs(t, 1, 1<<48, nil, api.ErrLong)
}

func TestFreshOfTheExamples(t *testing.T) { // P10.7
	all := []tile.Tile{at(2, 0, 0, 4), at(2, 0, 1, 3), at(2, 1, 0, 1)}
	freshIs(t, 2, 5, 7, all[1:2], api.OK)
	freshIs(t, 2, 3, 7, all, api.OK)
	freshIs(t, 2, 4, 5, []tile.Tile{at(2, 0, 1, 1)}, api.OK)
	freshIs(t, 2, 7, 7, nil, api.OK)
	freshIs(t, 2, 8, 7, nil, api.ErrArg)
	freshIs(t, 8, 1<<48-1, 1<<48, []tile.Tile{at(8, 0, 1<<40-1, 256), at(8, 1, 1<<32-1, 256), at(8, 2, 1<<24-1, 256), at(8, 3, 1<<16-1, 256), at(8, 4, 255, 256), at(8, 5, 0, 256), at(8, 6, 0, 1)}, api.OK)
}

func TestAllInSmallTrees(t *testing.T) { // P10.6
	for _, h := range heights {
		for size := range int64(300) {
			allIs(t, h, size, trueAll(h, size), api.OK)
		}
		for _, size := range []int64{1023, 1024, 1025, 4095, 4096, 4097} {
			allIs(t, h, size, trueAll(h, size), api.OK)
		}
	}
}

func TestFreshInSmallTrees(t *testing.T) { // P10.7: each pair of sizes
	for _, h := range heights {
		for size := range int64(40) {
			for old := range size + 1 {
				freshIs(t, h, old, size, trueFresh(h, old, size), api.OK)
			}
		}
	}
	for _, h := range heights {
		for _, size := range []int64{255, 256, 257, 511, 512, 513, 1023, 1024, 1025} {
			for _, old := range []int64{0, 1, 127, 128, 254, 255, 256, 257, size - 256, size - 2, size - 1, size} {
				if old >= 0 && old <= size {
					freshIs(t, h, old, size, trueFresh(h, old, size), api.OK)
				}
			}
		}
	}
}

// freshCount: how many tiles have changed, level by level.
func freshCount(h int, old, size int64) int64 {
	sum := int64(0)
	for l := 0; h*l <= 48; l++ {
		c, before := size>>(h*l), old>>(h*l)
		if c > before {
			sum += (c+1<<h-1)>>h - before>>h
		}
	}
	return sum
}

// greatest: the last number from low on, below high, for which it is so; it is so up to there.
func greatest(low, high int64, so func(int64) bool) int64 {
	for high-low > 1 {
		if mid := low + (high-low)/2; so(mid) {
			low = mid
		} else {
			high = mid
		}
	}
	return low
}

func TestAllUpToTheBound(t *testing.T) { // P10.6: 65536 tiles, and one more
	exact, oneMore := 0, 0
	for _, h := range heights {
		size := greatest(0, maxRecords, func(size int64) bool { return freshCount(h, 0, size) <= 65536 })
		want := trueAll(h, size)
		if n := len(want); n > 65536 || n < 65536-48 {
			t.Fatalf("height %d: %d tiles of %d records are no edge", h, n, size)
		} else if n == 65536 {
			exact++
		}
		if freshCount(h, 0, size+1) == 65537 {
			oneMore++
		}
		allIs(t, h, size, want, api.OK)
		allIs(t, h, size-1, trueAll(h, size-1), api.OK)
		freshIs(t, h, 0, size, want, api.OK)
		for _, more := range []int64{size + 1, size + 2, 2 * size, 1 << 40, 1<<48 - 1, 1 << 48} {
			allIs(t, h, more, nil, api.ErrLong)
			freshIs(t, h, 0, more, nil, api.ErrLong)
		}
	}
	if exact == 0 || oneMore == 0 {
		t.Errorf("%d lists of just 65536 tiles and %d of one more were asked for", exact, oneMore)
	}
}

// listed: the tiles that have changed between great trees, by the first number of each level that had not its full width.
func listed(h int, old, size int64) []tile.Tile {
	var list []tile.Tile
	for l := 0; h*l <= 48; l++ {
		n := old >> (h * l) >> h
		for ; trueWidth(h, l, n, size) > 0; n++ {
			if w := trueWidth(h, l, n, size); w != trueWidth(h, l, n, old) {
				list = append(list, at(h, l, n, w))
			}
		}
	}
	return list
}

func TestFreshInGreatTrees(t *testing.T) { // P10.7: what is answered is bounded, not the sizes
	chance := rand.New(rand.NewSource(5))
	for _, h := range heights {
		for _, size := range greatSizes(chance) {
			for _, less := range []int64{0, 1, 2, 255, 256, 257, chance.Int63n(2000)} {
				if old := size - less; old >= 0 {
					freshIs(t, h, old, size, listed(h, old, size), api.OK)
				}
			}
		}
	}
}

func TestFreshUpToTheBound(t *testing.T) { // P10.7: 65536 tiles, and more
	exact, oneMore := 0, 0
	for _, h := range heights {
		for _, size := range []int64{1 << 48, 1<<47 + 12345} {
			less := greatest(0, size, func(less int64) bool { return freshCount(h, size-less, size) <= 65536 })
			old := size - less
			want := listed(h, old, size)
			freshIs(t, h, old, size, want, api.OK)
			if len(want) == 65536 {
				exact++
			}
			if n := freshCount(h, old-1, size); n <= 65536 || n > 65536+49 {
				t.Fatalf("%d tiles are no edge", n)
			} else if n == 65537 {
				oneMore++
			}
			freshIs(t, h, old-1, size, nil, api.ErrLong)
			freshIs(t, h, old/2, size, nil, api.ErrLong)
		}
	}
	if exact == 0 || oneMore == 0 {
		t.Errorf("%d lists of just 65536 tiles and %d of one more were asked for", exact, oneMore)
	}
}

func TestAllAndFreshOfWrongNumbers(t *testing.T) { // P10.6, P10.7, P0.1
	wrongSizes := []int64{-1, math.MinInt64, 1<<48 + 1, math.MaxInt64}
	for _, h := range noHeights {
		for _, size := range append(wrongSizes, 0, 7, 1<<48) {
			allIs(t, h, size, nil, api.ErrArg)
			freshIs(t, h, 0, size, nil, api.ErrArg)
			freshIs(t, h, size, size, nil, api.ErrArg)
		}
	}
	for _, h := range heights {
		for _, size := range wrongSizes {
			allIs(t, h, size, nil, api.ErrArg)
			freshIs(t, h, 0, size, nil, api.ErrArg)
			freshIs(t, h, size, size, nil, api.ErrArg)
		}
		for _, size := range []int64{0, 7, 1 << 48} {
			for _, old := range []int64{-1, math.MinInt64, size + 1, 1<<48 + 1, math.MaxInt64} {
				freshIs(t, h, old, size, nil, api.ErrArg)
			}
		}
	}
}
