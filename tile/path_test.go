package tile_test

import (
	"math"
	"math/rand"
	"regexp"
	"strconv"
	"strings"
	"testing"

	"ledger/api"
	"ledger/tile"
)

func pathIs(t *testing.T, u tile.Tile, want string) {
	t.Helper()
	if s, e := tile.Path(u); s != want || e != api.OK {
		t.Errorf("Path(%+v) = %q, %d, want %q", u, s, int(e), want)
	}
	if v, e := tile.ParsePath(want); v != u || e != api.OK {
		t.Errorf("ParsePath(%q) = %+v, %d, want %+v", want, v, int(e), u)
	}
}

func noPath(t *testing.T, s string) {
	t.Helper()
	if u, e := tile.ParsePath(s); u != (tile.Tile{}) || e != api.ErrTilePath {
		t.Errorf("ParsePath(%.60q) = %+v, %d", s, u, int(e))
	}
}

func TestPathsOfTheExamples(t *testing.T) { // P10.2, P10.3
	pathIs(t, at(8, 0, 0, 256), "tile/8/0/000")
	pathIs(t, at(8, 0, 0, 5), "tile/8/0/000.p/5")
	pathIs(t, at(8, 1, 1234067, 256), "tile/8/1/x001/x234/067")
	pathIs(t, dataTile(8, 1000, 1), "tile/8/data/x001/000.p/1")
	pathIs(t, at(2, 3, 999, 4), "tile/2/3/999")
	pathIs(t, at(1, 48, 0, 1), "tile/1/48/000.p/1")
	for _, s := range []string{"tile/8/0/x000/001", "tile/8/0/0", "tile/8/0/000/", "tile/08/0/000", "tile/8/0/000.p/256", "tile/8/0/000.p/0", "tile/8/0/000.p/05", "/tile/8/0/000", "tile/8/0/x001/x234", "tile/8/7/000.p/1", "tile/9/0/000", ""} {
		noPath(t, s)
	}
}

// numbers: at which a path gets another digit or another group, and what chance gives.
func numbers(chance *rand.Rand) []int64 {
	list := []int64{0, 1, 2, 9, 10, 99, 100, 101}
	for n := int64(1000); n < maxRecords; n *= 10 {
		list = append(list, n-1, n, n+1, chance.Int63n(n), 7*n/1000*1000)
	}
	return append(list, 1<<47-1, 1<<47-2, 1<<40-1)
}

func TestPathsOfManyTiles(t *testing.T) { // P10.2, P10.3
	chance := rand.New(rand.NewSource(3))
	for _, h := range heights {
		for l := range 49 {
			for _, n := range numbers(chance) {
				for _, w := range []int{1, 2, 1 << h / 2, 1<<h - 1, 1 << h, 1 + chance.Intn(1<<h)} {
					for _, u := range []tile.Tile{at(h, l, n, w), {H: h, L: l, N: n, W: w, Data: true}} {
						if mayBe(u) {
							pathIs(t, u, truePath(u))
						}
					}
				}
			}
		}
		for w := 1; w <= 1<<h; w++ {
			pathIs(t, at(h, 0, 7, w), truePath(at(h, 0, 7, w)))
			pathIs(t, dataTile(h, 1007, w), truePath(dataTile(h, 1007, w)))
		}
	}
}

func TestPathOfNoTile(t *testing.T) { // P10.2, P0.1
	for _, u := range []tile.Tile{{}, at(0, 0, 0, 1), at(9, 0, 0, 1), at(-1, 0, 0, 1), at(8, 0, 0, 0), at(8, 0, 0, 257), at(1, 0, 0, 3), at(8, -1, 0, 1), at(8, 0, -1, 1), at(8, 6, 0, 2), at(8, 7, 0, 1), at(1, 49, 0, 1), at(8, 0, 1<<40, 1), {H: 8, L: 1, W: 1, Data: true}, at(math.MaxInt, math.MaxInt, math.MaxInt64, math.MaxInt), at(8, 1<<61, 0, 1), at(8, 0, 1<<56, 1), at(math.MinInt, 0, math.MinInt64, math.MinInt)} {
		if s, e := tile.Path(u); s != "" || e != api.ErrTile {
			t.Errorf("Path(%+v) = %q, %d", u, s, int(e))
		}
	}
}

func TestParsePathOfNoPath(t *testing.T) { // P10.3
	for _, s := range []string{
		"tile", "tile/", "tile/8", "tile/8/", "tile/8/0", "tile/8/0/", "8/0/000", "/8/0/000", "tile//8/0/000", "tile/8//000", "tile//0/000", "Tile/8/0/000", "tiles/8/0/000", "tile/tile/8/0/000",
		"tile/0/0/000", "tile/00/0/000", "tile/+8/0/000", "tile/-8/0/000", "tile/ 8/0/000", "tile/8 /0/000", "tile/10/0/000", "tile/88/0/000", "tile/8_/0/000", "tile/0x8/0/000", "tile/x/0/000", "tile/18446744073709551624/0/000", "tile/4294967304/0/000",
		"tile/8/00/000", "tile/8/01/000", "tile/8/-1/000", "tile/8/-0/000", "tile/8/+0/000", "tile/8/Data/000", "tile/8/DATA/000", "tile/8/dat/000", "tile/8/data0/000", "tile/8/data/", "tile/8/x/000", "tile/8/6/000", "tile/8/18446744073709551616/000", "tile/8/4294967296/000", "tile/1/49/000.p/1", "tile/1/48/000", "tile/1/48/001.p/1",
		"tile/8/0/00", "tile/8/0/0000", "tile/8/0/x000", "tile/8/0/x001", "tile/8/0/000/000", "tile/8/0/001/234", "tile/8/0/x000/000", "tile/8/0/x01/234", "tile/8/0/x0001/234", "tile/8/0/X001/234", "tile/8/0/x001x234", "tile/8/0/x001//234", "tile/8/0/x001/x234/", "tile/8/0/xx001/234", "tile/8/0/x001/x000/x001", "tile/8/0/001234", "tile/8/0/-01", "tile/8/0/+01", "tile/8/0/x-01/000", "tile/8/0/1e3", "tile/8/0/x000/x001/234", "tile/8/0/0_1", "tile/8/0/٠٠٠",
		"tile/8/0/x001/x099/x511/x627/776", "tile/8/0/x018/x446/x744/x073/x709/x551/616", "tile/8/0/x018/x446/x744/x073/x709/x551/617.p/1", "tile/1/0/x140/x737/x488/x355/328", "tile/1/0/x009/x223/x372/x036/x854/x775/808",
		"tile/8/0/000.p", "tile/8/0/000.p/", "tile/8/0/000.p/-1", "tile/8/0/000.p/+1", "tile/8/0/000.p/257", "tile/8/0/000.p/00", "tile/8/0/000.p/1/", "tile/8/0/000.p/1.p/1", "tile/8/0/000.p/x", "tile/8/0/000.P/1", "tile/8/0/000p/1", "tile/8/0/000./1", "tile/8/0/.p/1", "tile/8/0/000/.p/1", "tile/8/0/000.p//1", "tile/8/0/000.p/18446744073709551617", "tile/8/0/000.p/4294967297", "tile/1/0/000.p/2", "tile/1/0/000.p/3", "tile/8/data/000.p/256", "tile/8/data/x001/x000/000.p/001", "tile/8/6/000.p/2", "tile/8/6/001.p/1",
		" tile/8/0/000", "tile/8/0/000 ", "tile/8/0/000\n", "tile/8/0/000\x00", "tile/8/0/000?", "./tile/8/0/000", "tile/8/0/../0/000", "tile\\8\\0\\000", "\xff", "tile/\xff/0/000", "tile/8/\xff/000", "tile/8/0/\xff\xff\xff",
	} {
		noPath(t, s)
	}
}

func TestParsePathOfLongTexts(t *testing.T) { // P10.3, P0.1: of any length
	for _, n := range []int{1, 2, 3, 4, 5, 6, 7, 10, 100, 1 << 16} {
		for _, s := range []string{"000", "x", "/", ".p/", "\xff", "tile/", "0000000", "x00", "00000000000000000000000000000000000000000000000000000000000000000"} {
			if s == "000" && n == 1 {
				continue // a path
			}
			long := strings.Repeat(s, n)
			noPath(t, long)
			noPath(t, "tile/8/0/"+long)
			noPath(t, "tile/8/"+long+"/000")
			noPath(t, "tile/"+long+"/0/000")
			noPath(t, "tile/8/0/000"+long)
			noPath(t, "tile/8/0/000.p/"+long)
		}
		noPath(t, "tile/8/0/"+strings.Repeat("x000/", n)+"000")
		noPath(t, "tile/8/0/"+strings.Repeat("x000/", n)+"001.p/1")
		noPath(t, "tile/8/0/000.p/"+strings.Repeat("0", n)+"1")
		noPath(t, "tile/8/"+strings.Repeat("0", n)+"1/000")
		noPath(t, "tile/"+strings.Repeat("0", n)+"8/1/000")
		noPath(t, "tile/"+strings.Repeat("/", n)+"8/1/000")
		if n > 4 {
			noPath(t, "tile/8/0/"+strings.Repeat("x001/", n)+"001")
		}
	}
}

var pathForm = regexp.MustCompile(`^tile/([1-8])/(0|[1-9][0-9]*|data)/((?:x[0-9]{3}/)*[0-9]{3})(?:\.p/([1-9][0-9]*))?$`)

// readPath: the tile with this path, by an expression and what the words ask beyond it.
func readPath(s string) (tile.Tile, bool) {
	m := pathForm.FindStringSubmatch(s)
	if m == nil || strings.HasPrefix(m[3], "x000") {
		return tile.Tile{}, false
	}
	var u tile.Tile
	var errs [4]error
	u.H, errs[0] = strconv.Atoi(m[1])
	if u.Data = m[2] == "data"; !u.Data {
		u.L, errs[1] = strconv.Atoi(m[2])
	}
	u.N, errs[2] = strconv.ParseInt(strings.ReplaceAll(strings.ReplaceAll(m[3], "x", ""), "/", ""), 10, 64)
	u.W = 1 << u.H
	if m[4] != "" {
		if u.W, errs[3] = strconv.Atoi(m[4]); u.W == 1<<u.H {
			return tile.Tile{}, false
		}
	}
	if errs != [4]error{} || !mayBe(u) {
		return tile.Tile{}, false
	}
	return u, true
}

// parsesTruly: just as the expression has it.
func parsesTruly(t *testing.T, s string) {
	t.Helper()
	if u, ok := readPath(s); ok {
		pathIs(t, u, s)
	} else {
		noPath(t, s)
	}
}

func TestParsePathOfTextsBesidePaths(t *testing.T) { // P10.3: a byte more, a byte less, another byte, two turned round
	const bytes = "0123456789x/.pdat-+_ X\x00\n\xff"
	for _, s := range []string{"tile/8/0/000", "tile/8/0/000.p/25", "tile/1/48/000.p/1", "tile/8/data/x001/000.p/1", "tile/2/13/x001/x234/067", "tile/8/0/x001/x099/x511/x627/775", "tile/1/0/x140/x737/x488/x355/327.p/1", "tile/8/6/000.p/1", "tile/3/data/999.p/7"} {
		for i := range len(s) + 1 {
			for _, b := range []byte(bytes) {
				parsesTruly(t, s[:i]+string([]byte{b})+s[i:])
				if i < len(s) {
					parsesTruly(t, s[:i]+string([]byte{b})+s[i+1:])
				}
			}
			parsesTruly(t, s[:i])
			parsesTruly(t, s[i:])
			if i < len(s) {
				parsesTruly(t, s[:i]+s[i+1:])
			}
			if i+1 < len(s) {
				parsesTruly(t, s[:i]+s[i+1:i+2]+s[i:i+1]+s[i+2:])
			}
		}
	}
}

func TestParsePathOfPiecesByChance(t *testing.T) { // P10.3
	chance := rand.New(rand.NewSource(4))
	pieces := []string{"tile/", "8/", "1/", "0/", "data/", "000", "001", "x001/", "x999/", "x000/", ".p/", "1", "255", "256", "48/", "7", "/"}
	found := 0
	for range 100000 {
		s := "tile/"
		for range 2 + chance.Intn(6) {
			s += pieces[chance.Intn(len(pieces))]
		}
		parsesTruly(t, s)
		if _, ok := readPath(s); ok {
			found++
		}
	}
	if found < 100 {
		t.Errorf("only %d paths among the texts", found)
	}
}
