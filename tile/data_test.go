package tile_test

import (
	"bytes"
	"math"
	"math/rand"
	"slices"
	"strings"
	"testing"

	"ledger/api"
	"ledger/tile"
)

// trueJoin: the bytes of a data tile.
func trueJoin(records [][]byte) []byte {
	var data []byte
	for _, r := range records {
		data = slices.Concat(data, []byte{byte(len(r) / 256), byte(len(r) % 256)}, r)
	}
	return data
}

func joins(t *testing.T, records [][]byte) {
	t.Helper()
	want := trueJoin(records)
	if b, e := tile.Join(records); !bytes.Equal(b, want) || e != api.OK {
		t.Errorf("Join of %d records: %d bytes, %d, want %d bytes", len(records), len(b), int(e), len(want))
	}
	if l, e := tile.Cut(want, len(records)); !slices.EqualFunc(l, records, bytes.Equal) || e != api.OK {
		t.Errorf("Cut of %d records: %d, %d", len(records), len(l), int(e))
	}
	for _, w := range []int{len(records) - 1, len(records) + 1, 0, 256} {
		if w >= 0 && w <= 256 && w != len(records) {
			noCut(t, want, w, api.ErrWidth)
		}
	}
}

func noJoin(t *testing.T, records [][]byte) {
	t.Helper()
	if b, e := tile.Join(records); len(b) != 0 || e != api.ErrLong {
		t.Errorf("Join of %d records: %d bytes, %d", len(records), len(b), int(e))
	}
}

func noCut(t *testing.T, data []byte, w int, want api.Errno) {
	t.Helper()
	if l, e := tile.Cut(data, w); len(l) != 0 || e != want {
		t.Errorf("Cut(%.40q, %d) = %d records, %d, want %d", data, w, len(l), int(e), int(want))
	}
}

func TestRecordsOfTheExamples(t *testing.T) { // P10.10, P10.11
	b, e := tile.Join([][]byte{[]byte("ab"), nil})
	if string(b) != "\x00\x02ab\x00\x00" || e != api.OK {
		t.Errorf("Join: %q, %d", b, int(e))
	}
	l, e := tile.Cut(b, 2)
	if len(l) != 2 || string(l[0]) != "ab" || len(l[1]) != 0 || e != api.OK {
		t.Errorf("Cut: %q, %d", l, int(e))
	}
	noCut(t, b, 1, api.ErrWidth)
	noCut(t, b, 3, api.ErrWidth)
	if l, e := tile.Cut(nil, 0); len(l) != 0 || e != api.OK {
		t.Errorf("Cut of no bytes: %q, %d", l, int(e))
	}
	noCut(t, []byte("\x04\x01"+strings.Repeat("a", 1025)), 1, api.ErrWidth)
}

func TestRecordsOfAllLengths(t *testing.T) { // P10.10, P10.11: 0 to 1024 bytes, 0 to 256 records
	chance := rand.New(rand.NewSource(8))
	for n := range 1025 {
		joins(t, [][]byte{someBytes(chance, n)})
		joins(t, [][]byte{nil, someBytes(chance, n), nil})
	}
	for n := range 257 {
		records := make([][]byte, n)
		joins(t, records)
		for i := range records {
			records[i] = someBytes(chance, chance.Intn(40))
		}
		joins(t, records)
	}
	full := make([][]byte, 256)
	for i := range full {
		full[i] = someBytes(chance, 1024)
	}
	joins(t, full)
}

func TestJoinOfTooMuch(t *testing.T) { // P10.10
	noJoin(t, make([][]byte, 257))
	noJoin(t, make([][]byte, 70000))
	for _, n := range []int{1025, 1026, 2048, 65535, 65536, 65537, 1 << 20} {
		noJoin(t, [][]byte{make([]byte, n)})
		noJoin(t, [][]byte{nil, make([]byte, 1024), make([]byte, n)})
		noJoin(t, append(make([][]byte, 255), make([]byte, n)))
		noJoin(t, append([][]byte{make([]byte, n)}, make([][]byte, 256)...))
	}
}

func TestCutOfWrongWidths(t *testing.T) { // P10.11: ErrArg is found first
	for _, w := range []int{-1, -2, 257, 258, 1 << 32, math.MaxInt, math.MinInt} {
		for _, n := range []int{0, 1, 2, 514, 600} {
			noCut(t, make([]byte, n), w, api.ErrArg)
		}
	}
}

func TestCutOfWhatJoinDoesNotGive(t *testing.T) { // P10.11: a byte too few or too many; a length that is another
	for _, c := range []struct {
		data string
		w    int
	}{
		{"", 1}, {"", 256}, {"x", 0}, {"\x00\x00", 0}, {"\x00", 1}, {"\x00\x01", 1}, {"\x00\x02a", 1}, {"\x00\x01ab", 1}, {"\x00\x00\x00", 1}, {"\x00\x00\x00", 2}, {"\x02\x00ab", 1}, {"\x04\x01" + strings.Repeat("a", 1025), 1}, {"\x04\x00" + strings.Repeat("a", 1023), 1}, {"\x04\x00" + strings.Repeat("a", 1025), 1}, {"\x05\x00" + strings.Repeat("a", 1280), 1}, {"\xff\xff" + strings.Repeat("a", 65535), 1}, {"\x80\x00" + strings.Repeat("a", 32768), 1},
	} {
		noCut(t, []byte(c.data), c.w, api.ErrWidth)
	}
	noCut(t, make([]byte, 514), 256, api.ErrWidth)
	noCut(t, make([]byte, 511), 256, api.ErrWidth)
	noCut(t, make([]byte, 1<<22), 256, api.ErrWidth)
}

func TestCutByChance(t *testing.T) { // P10.11: just what Join gives of w records
	chance := rand.New(rand.NewSource(9))
	found := 0
	for range 100000 {
		data := make([]byte, chance.Intn(14))
		for i := range data {
			data[i] = byte(chance.Intn(3))
		}
		w := chance.Intn(5)
		l, e := tile.Cut(data, w)
		if !isJoined(data, w) {
			noCut(t, data, w, api.ErrWidth)
			continue
		}
		found++
		if len(l) != w || e != api.OK || !bytes.Equal(trueJoin(l), data) {
			t.Fatalf("Cut(%q, %d) = %q, %d", data, w, l, int(e))
		}
	}
	if found < 1000 {
		t.Errorf("only %d data tiles among the bytes", found)
	}
}

// isJoined: are the bytes what Join gives of w records? From the front, by recursion.
func isJoined(data []byte, w int) bool {
	if w == 0 || len(data) < 2 {
		return w == 0 && len(data) == 0
	}
	end := 2 + 256*int(data[0]) + int(data[1])
	return end <= 2+1024 && end <= len(data) && isJoined(data[end:], w-1)
}
