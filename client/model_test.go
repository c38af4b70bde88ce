package client_test

import (
	"iter"
	"slices"
	"testing"

	"ledger/api"
	"ledger/cache"
	"ledger/client"
	"ledger/disk"
	"ledger/modver"
	"ledger/note"
	"ledger/proof"
	"ledger/server"
	"ledger/store"
	"ledger/tile"
	"ledger/tlog"
	"ledger/web"
)

func (b *book) storeConfig() store.Config {
	return store.Config{Origin: b.origin, Signer: b.signer, Strength: b.k, Height: b.h}
}

// model: a session as the chapter's words tell it: a task is one function from its beginning to its end, which stops wherever it asks for answers.
type model struct {
	c       client.Config
	files   *cache.Cache
	head    note.Head
	note    string
	facts   []client.Fact
	result  client.Result
	under   bool
	targets []string
	answers [][]byte
	goOn    func() ([]string, bool)
	quit    func()
}

// ended: thrown where a task ends ahead of its end.
type ended client.Result

func fail(e api.Errno) { panic(ended{Err: e}) }

func mustBe(is bool, e api.Errno) {
	if !is {
		fail(e)
	}
}

// newModel: P17.1.
func newModel(c client.Config, files *cache.Cache) (m *model, e api.Errno) {
	_, text := note.ParseVerifier(c.Verifier)
	if note.CheckName(c.Origin) != api.OK || text != api.OK || c.Height < 1 || c.Height > 8 || c.Limit < 1 || c.Limit > 1048576 || files == nil {
		return nil, api.ErrConfig
	}
	m = &model{c: c, files: files, result: client.Result{Err: api.ErrState}}
	m.head = note.Head{Origin: c.Origin, Root: tlog.EmptyHash(c.Strength)}
	defer func() {
		if r := recover(); r != nil {
			m, e = nil, r.(ended).Err
		}
	}()
	if head := files.Head(); len(head) > 0 {
		m.head, m.note = m.readHead(string(head)), string(head)
	}
	return m, api.OK
}

func (m *model) readHead(message string) note.Head {
	n, e := note.Open([]byte(message), []string{m.c.Verifier})
	mustBe(e == api.OK, e)
	h, e := note.ParseHead(n.Text)
	mustBe(e == api.OK, api.ErrHead)
	mustBe(h.Origin == m.c.Origin, api.ErrOrigin)
	mustBe(h.Size != 0 || h.Root == tlog.EmptyHash(m.c.Strength), api.ErrHead)
	return h
}

func (m *model) look(answer []byte) string {
	mustBe(len(answer) <= m.c.Limit, api.ErrResponse)
	r, n, e := web.ParseResponse(answer)
	mustBe(e == api.OK && n == len(answer), api.ErrResponse)
	mustBe(r.Status == 200, api.ErrRefused)
	return string(r.Body)
}

// step: of a plan.
type step struct {
	t      tile.Tile
	data   []byte
	cached bool
}

// fetch: the bytes of those that have none.
func (m *model) fetch(ask func([]string) [][]byte, steps []*step) {
	var targets []string
	var open []*step
	for _, s := range steps {
		if s.data == nil {
			path, _ := tile.Path(s.t)
			targets, open = append(targets, "/"+path), append(open, s)
		}
	}
	answers := ask(targets)
	for i, s := range open {
		body := m.look(answers[i])
		mustBe(len(body) == 32*s.t.W, api.ErrBody)
		s.data = []byte(body)
	}
}

// readTiles: number 3; the steps, and the stored hashes by place.
func (m *model) readTiles(ask func([]string) [][]byte, g note.Head, places []int64) ([]*step, map[int64]api.Hash) {
	plan, e := tile.Plan(m.c.Height, g.Size, places)
	mustBe(e == api.OK, e)
	var steps []*step
	for _, t := range plan {
		s := &step{t: t}
		if data, e := m.files.Tile(t); e == api.OK {
			s.data, s.cached = data, true
		}
		steps = append(steps, s)
	}
	m.fetch(ask, steps)
	hashes, e := m.readSteps(g, steps, places)
	if e != api.OK && slices.ContainsFunc(steps, func(s *step) bool { return s.cached }) {
		for _, s := range steps {
			if s.cached {
				m.files.Drop(s.t)
				s.data, s.cached = nil, false
			}
		}
		m.fetch(ask, steps)
		hashes, e = m.readSteps(g, steps, places)
	}
	mustBe(e == api.OK, e)
	by := map[int64]api.Hash{}
	for i, p := range places {
		by[p] = hashes[i]
	}
	return steps, by
}

func (m *model) readSteps(g note.Head, steps []*step, places []int64) ([]api.Hash, api.Errno) {
	var tiles []tile.Tile
	var datas [][]byte
	for _, s := range steps {
		tiles, datas = append(tiles, s.t), append(datas, s.data)
	}
	return tile.Read(m.c.Strength, m.c.Height, g.Size, g.Root, tiles, datas, places)
}

// foldAll: a proof, of the places of its lists.
func (m *model) foldAll(lists [][]int64, by map[int64]api.Hash) []api.Hash {
	var out []api.Hash
	for _, list := range lists {
		var hashes []api.Hash
		for _, p := range list {
			hashes = append(hashes, by[p])
		}
		out = append(out, tlog.Fold(m.c.Strength, hashes))
	}
	return out
}

// asked: what a task was begun with; without a key and without a head it is a latest.
type asked struct {
	isLookup, isMerge bool
	path, version     string
	head              string
}

// told: number 1: the new head and its note; of a lookup the id and the record.
func (m *model) told(ask func([]string) [][]byte, a asked) (h note.Head, message string, id int64, record string) {
	switch {
	case a.isLookup:
		path, _ := modver.EscapePath(a.path)
		version, _ := modver.EscapeVersion(a.version)
		body := m.look(ask([]string{"/lookup/" + path + "@" + version})[0])
		i, r, head, e := server.ParseLookup([]byte(body))
		mustBe(e == api.OK, api.ErrBody)
		p, v, _, _, _ := modver.ParseRecord(r)
		mustBe(p == a.path && v == a.version, api.ErrOther)
		h, message, id, record = m.readHead(string(head)), string(head), i, r
		mustBe(id < h.Size, api.ErrIdRange)
	case a.isMerge:
		h, message = m.readHead(a.head), a.head
	default:
		message = m.look(ask([]string{"/latest"})[0])
		h = m.readHead(message)
	}
	return h, message, id, record
}

// task: numbers 1 to 5.
func (m *model) task(ask func([]string) [][]byte, a asked) client.Result {
	k := m.c.Strength
	h, message, id, record := m.told(ask, a)
	g, s, great, small := m.head, h, m.note, message
	if h.Size > m.head.Size {
		g, s, great, small = h, m.head, message, m.note
	}
	if h.Size == m.head.Size && h.Root != m.head.Root {
		panic(ended{Err: api.ErrFork, Fork: client.Fork{Small: []byte(m.note), Great: []byte(message), Root: h.Root}})
	}
	grown := g.Size != s.Size && s.Size > 0
	var peaks [][]int64
	var treeLists, recordLists [][]int64
	if grown {
		places, _ := tlog.Peaks(s.Size)
		peaks = [][]int64{places}
		treeLists, _ = proof.TreePlaces(g.Size, s.Size)
	}
	if a.isLookup {
		recordLists, _ = proof.RecordPlaces(g.Size, id)
	}
	var steps []*step
	var by map[int64]api.Hash
	if grown || a.isLookup {
		steps, by = m.readTiles(ask, g, slices.Concat(slices.Concat(peaks, treeLists, recordLists)...))
	}
	tree, way := m.foldAll(treeLists, by), m.foldAll(recordLists, by)
	if grown {
		if root := m.foldAll(peaks, by)[0]; root != s.Root {
			panic(ended{Err: api.ErrFork, Fork: client.Fork{Small: []byte(small), Great: []byte(great), Root: root, Proof: tree}})
		}
	}
	if a.isLookup {
		e := proof.CheckRecord(k, way, g.Size, g.Root, id, tlog.LeafHash(k, []byte(record)))
		mustBe(e == api.OK, api.ErrInclusion)
	}
	t := m.head
	if h.Size > t.Size {
		e := m.files.SetHead([]byte(m.note), []byte(message))
		mustBe(e == api.OK, e)
		m.head, m.note = h, message
	}
	for _, s := range steps {
		if !s.cached {
			m.files.Put(s.t, s.data)
		}
	}
	if h.Size > t.Size {
		m.facts = append(m.facts, client.Fact{Kind: client.Moved, Old: t, Head: h, Proof: tree, Note: []byte(message)})
	}
	if h.Size < t.Size && h.Size > 0 {
		m.facts = append(m.facts, client.Fact{Kind: client.Agreed, Old: h, Head: t, Proof: tree, Note: []byte(message)})
	}
	if a.isLookup {
		m.facts = append(m.facts, client.Fact{Kind: client.Accepted, Path: a.path, Version: a.version, Id: id, Record: record, Head: g, Proof: way})
	}
	return client.Result{Id: id, Record: record}
}

// begin: the task runs up to the first answers that it needs.
func (m *model) begin(a asked) {
	run := func(yield func([]string) bool) {
		defer func() {
			if r := recover(); r != nil {
				m.result = client.Result(r.(ended))
			}
		}()
		ask := func(targets []string) [][]byte {
			if len(targets) > 0 && !yield(targets) {
				fail(api.ErrTimeout)
			}
			return m.answers
		}
		m.result = m.task(ask, a)
	}
	m.goOn, m.quit = iter.Pull(run)
	m.next()
}

func (m *model) next() {
	m.targets, m.under = m.goOn()
	m.answers = make([][]byte, len(m.targets))
}

// P17.3 to P17.7.

func (m *model) Lookup(path, version string) api.Errno {
	if m.under {
		return api.ErrState
	}
	if _, e := modver.Key(path, version); e != api.OK {
		return e
	}
	m.begin(asked{isLookup: true, path: path, version: version})
	return api.OK
}

func (m *model) Latest() api.Errno {
	if m.under {
		return api.ErrState
	}
	m.begin(asked{})
	return api.OK
}

func (m *model) Merge(head []byte) api.Errno {
	switch {
	case m.under:
		return api.ErrState
	case len(head) > 65536:
		return api.ErrLong
	}
	m.begin(asked{isMerge: true, head: string(head)})
	return api.OK
}

// open: the places of the answers that have not come.
func (m *model) open() []int {
	var open []int
	for i, a := range m.answers {
		if m.under && len(a) == 0 {
			open = append(open, i)
		}
	}
	return open
}

func (m *model) Wants() [][]byte {
	var out [][]byte
	for _, i := range m.open() {
		out = append(out, []byte("GET "+m.targets[i]+" HTTP/1.1\r\nHost: ledger\r\n\r\n"))
	}
	return out
}

func (m *model) Give(responses [][]byte) api.Errno {
	open := m.open()
	switch {
	case !m.under:
		return api.ErrState
	case len(responses) != len(open):
		return api.ErrCount
	}
	for i, at := range open {
		m.answers[at] = responses[i]
	}
	if len(m.open()) == 0 {
		m.next()
	}
	return api.OK
}

func (m *model) Quit() api.Errno {
	if !m.under {
		return api.ErrState
	}
	m.quit()
	m.under = false
	return api.OK
}

func (m *model) Result() client.Result {
	if m.under {
		return client.Result{Err: api.ErrState}
	}
	return m.result
}

// pair: a session and the model, each with a cache and a disk of its own; all that is done to the one is done to the other.
type pair struct {
	t       *testing.T
	conf    client.Config
	d, twin *disk.Disk
	f, g    *cache.Cache
	c       *client.Client
	m       *model
	begun   note.Head // with which the session began
	calls   int
}

func newPair(t *testing.T, conf client.Config, room int, files ...disk.File) *pair {
	t.Helper()
	p := &pair{t: t, conf: conf, d: loaded(t, files...), twin: loaded(t, files...)}
	p.open(room)
	t.Cleanup(func() { p.m.Quit() })
	return p
}

// open: a new session on the disks.
func (p *pair) open(room int) api.Errno {
	p.t.Helper()
	if p.m != nil {
		p.m.Quit()
	}
	p.f, p.g = opened(p.t, p.d, room), opened(p.t, p.twin, room)
	c, e := client.New(p.conf, p.f)
	m, f := newModel(p.conf, p.g)
	if e != f || (c != nil) != (e == api.OK) {
		p.t.Fatalf("New = %v, %d; want %d", c != nil, int(e), int(f))
	}
	if e == api.OK {
		p.c, p.m, p.begun = c, m, c.Head()
		p.agree("New")
	}
	return e
}

// agree: all that the two tell, and leave on their disks, is the same.
func (p *pair) agree(what string) {
	p.t.Helper()
	p.calls++
	if got, want := targetsOf(p.c), p.m.Wants(); got != targetsIn(want) {
		p.t.Fatalf("call %d, %s: wants %q; want %q", p.calls, what, got, targetsIn(want))
	}
	if got, want := tell(p.c.Result()), tell(p.m.Result()); got != want {
		p.t.Fatalf("call %d, %s: Result = %.2000s; want %.2000s", p.calls, what, got, want)
	}
	if got, want := told(p.c, p.f, p.d), p.m.toldOn(p.twin); got != want {
		p.t.Fatalf("call %d, %s: tells\n%.5000s; want\n%.5000s", p.calls, what, got, want)
	}
	if p.d.Acts() != p.twin.Acts() || p.d.Pending() != p.twin.Pending() {
		p.t.Fatalf("call %d, %s: %d acts, %d pending; want %d, %d", p.calls, what, p.d.Acts(), p.d.Pending(), p.twin.Acts(), p.twin.Pending())
	}
}

// both: a call of the two.
func (p *pair) both(what string, got, want api.Errno) api.Errno {
	p.t.Helper()
	if got != want {
		p.t.Fatalf("call %d, %s = %d; want %d", p.calls, what, int(got), int(want))
	}
	p.agree(what)
	return got
}

func (p *pair) Lookup(path, version string) api.Errno {
	p.t.Helper()
	return p.both("Lookup", p.c.Lookup(path, version), p.m.Lookup(path, version))
}

func (p *pair) Latest() api.Errno {
	p.t.Helper()
	return p.both("Latest", p.c.Latest(), p.m.Latest())
}

func (p *pair) Merge(head string) api.Errno {
	p.t.Helper()
	return p.both("Merge", p.c.Merge([]byte(head)), p.m.Merge([]byte(head)))
}

func (p *pair) Wants() [][]byte { return p.c.Wants() }

func (p *pair) Give(responses [][]byte) api.Errno {
	p.t.Helper()
	return p.both("Give", p.c.Give(responses), p.m.Give(responses))
}

func (p *pair) Quit() api.Errno {
	p.t.Helper()
	return p.both("Quit", p.c.Quit(), p.m.Quit())
}

// disks: what others do to the files.
func (p *pair) disks(do func(d *disk.Disk)) {
	do(p.d)
	do(p.twin)
}

// crash: the machine ends and runs again.
func (p *pair) crash(choices []int) { p.d, p.twin = p.d.Crash(choices), p.twin.Crash(choices) }
