package cache_test

import (
	"bytes"
	"fmt"
	"slices"
	"strings"
	"testing"

	"ledger/api"
	"ledger/cache"
	"ledger/disk"
	"ledger/tile"
)

const space = 1 << 24

// at: a tile of height 2 and level 0.
func at(n int64, w int) tile.Tile { return tile.Tile{H: 2, N: n, W: w} }

// tiles: of height 2, level 0 and width 1, of these numbers.
func tiles(ns ...int64) []tile.Tile {
	var out []tile.Tile
	for _, n := range ns {
		out = append(out, at(n, 1))
	}
	return out
}

// bytesOf: a tile's bytes, others for each tile, salt and place.
func bytesOf(t tile.Tile, salt int) []byte {
	var out bytes.Buffer
	for i := range t.W {
		fmt.Fprintf(&out, "%-32.32s", fmt.Sprintf("%d %d %d %d %d", t.H, t.L, t.N, salt, i))
	}
	return out.Bytes()
}

func pathOf(t tile.Tile) string {
	path, e := tile.Path(t)
	if e != api.OK {
		panic(fmt.Sprint(t, e))
	}
	return path
}

// file: one of the cache a.
func file(name string, data []byte) disk.File {
	return disk.File{Name: "cache/a/" + name, Data: data}
}

func tileFile(t tile.Tile, salt int) disk.File { return file(pathOf(t), bytesOf(t, salt)) }

func made(t *testing.T, room int64) *disk.Disk {
	t.Helper()
	d, e := disk.New(room)
	if e != api.OK {
		t.Fatal(e)
	}
	return d
}

func loaded(t *testing.T, files ...disk.File) *disk.Disk {
	t.Helper()
	d, e := disk.Load(space, files)
	if e != api.OK {
		t.Fatal(e)
	}
	return d
}

func opened(t *testing.T, d *disk.Disk, name string, room int) *cache.Cache {
	t.Helper()
	c, e := cache.Open(d, name, room)
	if c == nil || e != api.OK {
		t.Fatalf("Open(%q, %d) = %v, %d", name, room, c != nil, int(e))
	}
	return c
}

// begun: a cache a on an empty disk.
func begun(t *testing.T, room int) (*disk.Disk, *cache.Cache) {
	t.Helper()
	d := made(t, space)
	return d, opened(t, d, "a", room)
}

func want(t *testing.T, what string, got, e api.Errno) {
	t.Helper()
	if got != e {
		t.Errorf("%s = %d; want %d", what, int(got), int(e))
	}
}

// puts: each of these tiles with its own bytes.
func puts(t *testing.T, c *cache.Cache, list ...tile.Tile) {
	t.Helper()
	for _, x := range list {
		want(t, fmt.Sprintf("Put(%v)", x), c.Put(x, bytesOf(x, 0)), api.OK)
	}
}

func lists(t *testing.T, what string, c *cache.Cache, list ...tile.Tile) {
	t.Helper()
	if got := c.List(); !slices.Equal(got, list) {
		t.Errorf("%s: List = %v; want %v", what, got, list)
	}
}

func hasHead(t *testing.T, what string, c *cache.Cache, head string) {
	t.Helper()
	if got := string(c.Head()); got != head {
		t.Errorf("%s: Head = %.40q; want %.40q", what, got, head)
	}
}

// gives: Tile answers these bytes, or none with an error.
func gives(t *testing.T, c *cache.Cache, x tile.Tile, data []byte, e api.Errno) {
	t.Helper()
	if b, got := c.Tile(x); !bytes.Equal(b, data) || got != e {
		t.Errorf("Tile(%v) = %q, %d; want %q, %d", x, b, int(got), data, int(e))
	}
}

// acts: a call has done so many of them.
func acts(t *testing.T, what string, d *disk.Disk, n int, call func()) {
	t.Helper()
	before := d.Acts()
	call()
	if got := d.Acts() - before; got != n {
		t.Errorf("%s: %d acts; want %d", what, got, n)
	}
}

func names(d *disk.Disk) string { return strings.Join(d.List(""), " ") }

func hasNames(t *testing.T, what string, d *disk.Disk, list ...string) {
	t.Helper()
	if got := names(d); got != strings.Join(list, " ") {
		t.Errorf("%s: the disk has %q; want %q", what, got, list)
	}
}

// told: files as a text.
func told(files []disk.File) string {
	var out strings.Builder
	for _, f := range files {
		fmt.Fprintf(&out, "%s=%q\n", f.Name, f.Data)
	}
	return out.String()
}

// faults: all that Fail takes.
func faults() []api.Errno { return []api.Errno{api.ErrIO, api.ErrFull, api.ErrDead} }

// crashes: one for every number of names' acts that last, with some of each loose write's bytes.
func crashes(d *disk.Disk) [][]int {
	var out [][]int
	for n := range d.Pending() + 1 {
		for _, part := range []int{0, 1, 31, 32, -1} {
			out = append(out, []int{n, part, part, part, part, part, part, part})
		}
	}
	return out
}
