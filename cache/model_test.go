package cache_test

import (
	"regexp"
	"slices"
	"strings"
	"testing"

	"ledger/api"
	"ledger/cache"
	"ledger/disk"
	"ledger/tile"
)

// model: a cache as the chapter's words tell it, on a disk of its own: a plain list of entries, the one used longest ago first.
type model struct {
	d       *disk.Disk
	start   string
	room    int
	head    string
	entries []tile.Tile
}

func isCacheName(s string) bool { return regexp.MustCompile(`\A[a-z0-9]{1,30}\z`).MatchString(s) }

func isDead(d *disk.Disk) bool {
	_, e := d.Read("any")
	return e == api.ErrDead
}

func readOrNone(d *disk.Disk, name string) string {
	b, _ := d.Read(name)
	return string(b)
}

func sameNumbers(a, b tile.Tile) bool { return a.H == b.H && a.L == b.L && a.N == b.N }

// goodFiles: the tiles of the good files, in the order of the names' bytes.
func goodFiles(d *disk.Disk, start string) []tile.Tile {
	var good []tile.Tile
	for _, f := range d.Files() {
		path, own := strings.CutPrefix(f.Name, start)
		t, e := tile.ParsePath(path)
		if own && e == api.OK && !t.Data && len(f.Data) == 32*t.W {
			good = append(good, t)
		}
	}
	return good
}

// openModel: P16.1.
func openModel(d *disk.Disk, name string, room int) (*model, api.Errno) {
	switch {
	case !isCacheName(name):
		return nil, api.ErrFile
	case room < 0 || room > 4096:
		return nil, api.ErrArg
	case isDead(d):
		return nil, api.ErrDead
	}
	m := &model{d: d, start: "cache/" + name + "/", room: room}
	m.head = readOrNone(d, m.start+"head")
	good := goodFiles(d, m.start)
	m.entries = slices.DeleteFunc(slices.Clone(good), func(t tile.Tile) bool {
		return slices.ContainsFunc(good, func(u tile.Tile) bool { return sameNumbers(t, u) && u.W > t.W })
	})
	m.entries = m.entries[:min(room, len(m.entries))]
	stay := []string{m.start + "head"}
	for _, t := range m.entries {
		stay = append(stay, m.file(t))
	}
	for _, n := range d.List(m.start) {
		if slices.Contains(stay, n) {
			continue
		}
		if e := m.remove(n); e != api.OK {
			return nil, e
		}
	}
	if e := d.SyncNames(); e != api.OK {
		return nil, e
	}
	return m, api.OK
}

func (m *model) file(t tile.Tile) string { return m.start + pathOf(t) }

func (m *model) remove(name string) api.Errno {
	if e := m.d.Remove(name); e != api.ErrAbsent {
		return e
	}
	return api.OK
}

// index: of the entry of the same numbers; -1, if there is none.
func (m *model) index(t tile.Tile) int {
	return slices.IndexFunc(m.entries, func(u tile.Tile) bool { return sameNumbers(t, u) })
}

func (m *model) goes(i int) { m.entries = slices.Delete(m.entries, i, i+1) }

func (m *model) use(i int) {
	t := m.entries[i]
	m.goes(i)
	m.entries = append(m.entries, t)
}

// setHead: P16.3.
func (m *model) setHead(old, next string) api.Errno {
	switch {
	case old != m.head:
		return api.ErrMoved
	case len(next) > 65536:
		return api.ErrLong
	case isDead(m.d):
		return api.ErrDead
	case readOrNone(m.d, m.start+"head") != old:
		return api.ErrMoved
	}
	for _, act := range []func() api.Errno{
		func() api.Errno { return m.d.Create(m.start + "head.new") },
		func() api.Errno { return m.d.Write(m.start+"head.new", 0, []byte(next)) },
		func() api.Errno { return m.d.Sync(m.start + "head.new") },
		func() api.Errno { return m.d.Rename(m.start+"head.new", m.start+"head") },
		func() api.Errno { return m.d.SyncNames() },
	} {
		if e := act(); e != api.OK {
			return e
		}
	}
	m.head = next
	return api.OK
}

// tile: P16.5.
func (m *model) tile(t tile.Tile) (string, api.Errno) {
	if tile.Check(t) != api.OK || t.Data {
		return "", api.ErrTile
	}
	i := m.index(t)
	if i < 0 || m.entries[i].W < t.W {
		return "", api.ErrEntry
	}
	b, e := m.d.Read(m.file(m.entries[i]))
	if e == api.ErrDead {
		return "", e
	}
	if e == api.ErrAbsent || len(b) != 32*m.entries[i].W {
		m.goes(i)
		return "", api.ErrEntry
	}
	m.use(i)
	return string(b[:32*t.W]), api.OK
}

// put: P16.6.
func (m *model) put(t tile.Tile, data string) api.Errno {
	if tile.Check(t) != api.OK || t.Data {
		return api.ErrTile
	}
	if len(data) != 32*t.W {
		return api.ErrWidth
	}
	if m.room == 0 {
		return api.OK
	}
	if i := m.index(t); i >= 0 && m.entries[i].W > t.W {
		m.use(i)
		return api.OK
	}
	if i := m.index(t); i >= 0 && m.entries[i].W < t.W {
		if e := m.remove(m.file(m.entries[i])); e != api.OK {
			return e
		}
		m.goes(i)
	}
	if m.index(t) < 0 && len(m.entries) == m.room {
		if e := m.remove(m.file(m.entries[0])); e != api.OK {
			return e
		}
		m.goes(0)
	}
	if e := m.d.Create(m.file(t)); e != api.OK {
		return e
	}
	if i := m.index(t); i >= 0 {
		m.goes(i)
	}
	if e := m.d.Write(m.file(t), 0, []byte(data)); e != api.OK {
		return e
	}
	m.entries = append(m.entries, t)
	return api.OK
}

// drop: P16.7.
func (m *model) drop(t tile.Tile) api.Errno {
	if tile.Check(t) != api.OK || t.Data {
		return api.ErrTile
	}
	i := m.index(t)
	if i < 0 {
		return api.ErrEntry
	}
	e := m.remove(m.file(m.entries[i]))
	if e == api.OK {
		m.goes(i)
	}
	return e
}

// pair: a disk with a cache, and a twin of the disk with the model. Whatever is done to one is done to the other.
type pair struct {
	t       *testing.T
	d, twin *disk.Disk
	c       *cache.Cache
	m       *model
}

func newPair(t *testing.T, room int64, files ...disk.File) *pair {
	t.Helper()
	d, e := disk.Load(room, files)
	twin, f := disk.Load(room, files)
	if e != api.OK || f != api.OK {
		t.Fatal(e, f)
	}
	return &pair{t: t, d: d, twin: twin}
}

func (p *pair) both(do func(*disk.Disk)) {
	do(p.d)
	do(p.twin)
}

func (p *pair) fail(n int, e api.Errno) { p.both(func(d *disk.Disk) { d.Fail(n, e) }) }

func (p *pair) crash(choices []int) {
	p.t.Helper()
	p.d, p.twin = p.d.Crash(choices), p.twin.Crash(choices)
	p.c, p.m = nil, nil
	p.agree("Crash", api.OK, api.OK)
}

// agree: the answers are one, and all that is told behind them.
func (p *pair) agree(what string, got, want api.Errno) {
	p.t.Helper()
	if got != want {
		p.t.Fatalf("%s = %d; want %d", what, int(got), int(want))
	}
	if got, want := told(p.d.Files()), told(p.twin.Files()); got != want {
		p.t.Fatalf("%s: the disk has\n%s; want\n%s", what, got, want)
	}
	if p.d.Acts() != p.twin.Acts() || p.d.Pending() != p.twin.Pending() || p.d.Used() != p.twin.Used() {
		p.t.Fatalf("%s: %d acts, %d pending, %d used; want %d, %d, %d", what, p.d.Acts(), p.d.Pending(), p.d.Used(), p.twin.Acts(), p.twin.Pending(), p.twin.Used())
	}
	if (p.c == nil) != (p.m == nil) {
		p.t.Fatalf("%s: there is a cache: %v", what, p.c != nil)
	}
	if p.c != nil && (string(p.c.Head()) != p.m.head || !slices.Equal(p.c.List(), p.m.entries)) {
		p.t.Fatalf("%s: Head %.40q, List %v; want %.40q, %v", what, p.c.Head(), p.c.List(), p.m.head, p.m.entries)
	}
}

// agreeBehindCrashes: it ends both disks.
func (p *pair) agreeBehindCrashes(what string) {
	p.t.Helper()
	for _, choices := range crashes(p.twin) {
		if got, want := told(p.d.Crash(choices).Files()), told(p.twin.Crash(choices).Files()); got != want {
			p.t.Fatalf("%s: a crash of %v leaves\n%s; want\n%s", what, choices, got, want)
		}
	}
}

func (p *pair) open(name string, room int) (e api.Errno) {
	p.t.Helper()
	var f api.Errno
	p.c, e = cache.Open(p.d, name, room)
	p.m, f = openModel(p.twin, name, room)
	p.agree("Open", e, f)
	return e
}

func (p *pair) setHead(old, next string) api.Errno {
	p.t.Helper()
	e := p.c.SetHead([]byte(old), []byte(next))
	p.agree("SetHead", e, p.m.setHead(old, next))
	return e
}

func (p *pair) tile(x tile.Tile) (string, api.Errno) {
	p.t.Helper()
	b, e := p.c.Tile(x)
	want, f := p.m.tile(x)
	if string(b) != want {
		p.t.Fatalf("Tile(%v) = %q; want %q", x, b, want)
	}
	p.agree("Tile", e, f)
	return want, e
}

func (p *pair) put(x tile.Tile, data []byte) api.Errno {
	p.t.Helper()
	e := p.c.Put(x, data)
	p.agree("Put", e, p.m.put(x, string(data)))
	return e
}

func (p *pair) drop(x tile.Tile) api.Errno {
	p.t.Helper()
	e := p.c.Drop(x)
	p.agree("Drop", e, p.m.drop(x))
	return e
}
