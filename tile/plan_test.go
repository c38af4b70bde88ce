package tile_test

import (
	"math"
	"math/rand"
	"slices"
	"testing"

	"ledger/api"
	"ledger/tile"
)

func planIs(t *testing.T, h int, size int64, places []int64, want []tile.Tile, errno api.Errno) {
	t.Helper()
	if l, e := tile.Plan(h, size, places); !slices.Equal(l, want) || e != errno {
		t.Errorf("Plan(%d, %d, %.10v) = %.10v, %d, want %.10v, %d", h, size, places, l, int(e), want, int(errno))
	}
}

func TestPlanOfTheExamples(t *testing.T) { // P10.12
	planIs(t, 2, 7, nil, []tile.Tile{at(2, 1, 0, 1), at(2, 0, 1, 3)}, api.OK)
	planIs(t, 2, 7, []int64{0}, []tile.Tile{at(2, 1, 0, 1), at(2, 0, 0, 4), at(2, 0, 1, 3)}, api.OK)
	planIs(t, 8, 1000, []int64{0}, []tile.Tile{at(8, 1, 0, 3), at(8, 0, 0, 256), at(8, 0, 3, 232)}, api.OK)
	planIs(t, 2, 7, []int64{11}, nil, api.ErrOutside)
	planIs(t, 2, 7, []int64{-1}, nil, api.ErrOutside)
	planIs(t, 2, 0, []int64{0}, nil, api.ErrOutside)
	planIs(t, 2, 0, nil, nil, api.OK)
}

func TestPlanOfEachPlace(t *testing.T) { // P10.12: and of none, of all, of each pair
	for _, h := range heights {
		for size := range int64(40) {
			planIs(t, h, size, nil, truePlan(h, size, nil), api.OK)
			all := everyPlace(size)
			planIs(t, h, size, all, truePlan(h, size, all), api.OK)
			for _, place := range all {
				planIs(t, h, size, []int64{place}, truePlan(h, size, []int64{place}), api.OK)
				planIs(t, h, size, []int64{place, place, place}, truePlan(h, size, []int64{place}), api.OK)
			}
		}
		for _, a := range everyPlace(20) {
			for _, b := range everyPlace(20) {
				planIs(t, h, 20, []int64{a, b}, truePlan(h, 20, []int64{b, a}), api.OK)
			}
		}
	}
}

func TestPlanInGreatTrees(t *testing.T) { // P10.12
	chance := rand.New(rand.NewSource(10))
	for _, h := range heights {
		for _, size := range greatSizes(chance) {
			planIs(t, h, size, nil, truePlan(h, size, nil), api.OK)
			if size == 0 {
				continue
			}
			for range 4 {
				places := somePlaces(chance, size, 2+chance.Intn(12))
				planIs(t, h, size, places, truePlan(h, size, places), api.OK)
				planIs(t, h, size, places[1:2], truePlan(h, size, places[1:2]), api.OK)
			}
		}
	}
}

func TestPlanOfManyPlaces(t *testing.T) { // P10.12: 1024 are taken, 1025 are not
	chance := rand.New(rand.NewSource(11))
	for _, h := range heights {
		for _, size := range []int64{1, 5000, 1 << 33, 1 << 48} {
			places := somePlaces(chance, size, 1025)
			planIs(t, h, size, places[:1024], truePlan(h, size, places[:1024]), api.OK)
			planIs(t, h, size, places, nil, api.ErrLong)
		}
		planIs(t, h, 7, make([]int64, 1024), truePlan(h, 7, []int64{0}), api.OK)
		planIs(t, h, 7, make([]int64, 1025), nil, api.ErrLong)
	}
	if n := len(truePlan(1, 1<<48, somePlaces(chance, 1<<48, 1024))); n <= 4096 {
		t.Errorf("only %d tiles in a plan of height 1", n)
	}
}

func TestPlanErrors(t *testing.T) { // P10.12, P0.1: and their order
	wrong := []int64{-1, math.MinInt64, 11, 12, 1<<49 - 1, math.MaxInt64}
	many := slices.Repeat([]int64{-1}, 2000)
	for _, h := range noHeights {
		for _, places := range [][]int64{nil, {0}, wrong, many} {
			planIs(t, h, 7, places, nil, api.ErrArg)
			planIs(t, h, 0, places, nil, api.ErrArg)
		}
	}
	for _, h := range heights {
		for _, size := range []int64{-1, math.MinInt64, 1<<48 + 1, math.MaxInt64} {
			for _, places := range [][]int64{nil, {0}, wrong, many} {
				planIs(t, h, size, places, nil, api.ErrArg)
			}
		}
		planIs(t, h, 7, many, nil, api.ErrLong)
		planIs(t, h, 0, many[:1025], nil, api.ErrLong)
		planIs(t, h, 7, many[:1024], nil, api.ErrOutside)
		for _, place := range wrong {
			planIs(t, h, 7, []int64{place}, nil, api.ErrOutside)
			planIs(t, h, 7, []int64{0, 5, place, 1}, nil, api.ErrOutside)
			planIs(t, h, 7, []int64{10, 9, 8, place}, nil, api.ErrOutside)
		}
	}
}

func TestPlanAtTheEndOfTheTree(t *testing.T) { // P10.12: the last place that the tree has, and the first that it hasn't
	chance := rand.New(rand.NewSource(12))
	for _, h := range heights {
		for _, size := range greatSizes(chance) {
			count := trueCount(size)
			planIs(t, h, size, []int64{count}, nil, api.ErrOutside)
			if size > 0 {
				planIs(t, h, size, []int64{count - 1}, truePlan(h, size, []int64{count - 1}), api.OK)
			}
		}
	}
}
