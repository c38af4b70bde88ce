package world_test

import (
	"cmp"
	"fmt"
	"slices"
	"strconv"
	"strings"

	"ledger/api"
	"ledger/cache"
	"ledger/client"
	"ledger/disk"
	"ledger/evidence"
	"ledger/modver"
	"ledger/note"
	"ledger/server"
	"ledger/store"
	"ledger/tile"
)

// book: the chapter's words said again over the layers' faces. Its network is no net of lanes: it is the list of all copies of messages with the ticks at which they come.
type book struct {
	logs    map[string]*bookLog
	clients map[string]*bookClient
	sizes   map[string]int // how often a plan of so many wants was met, for tests that ask whether it was
}

type bookLog struct {
	disk     *disk.Disk
	config   store.Config
	verifier string
	open     *server.Server
}

type bookClient struct {
	disk    *disk.Disk
	config  client.Config
	room    int
	files   *cache.Cache
	open    *client.Client
	log     *bookLog
	facts   []client.Fact // of earlier sessions
	answers []string
}

func newBook() *book {
	return &book{map[string]*bookLog{}, map[string]*bookClient{}, map[string]int{}}
}

// tell: what a line of the right form tells.
func (b *book) tell(line string) string {
	words, e := lineError(line)
	if e != api.OK || words == nil {
		return ""
	}
	begin := words[0] + " " + words[1] + " "
	if early := b.early(words); early != "" {
		return begin + early + "\n"
	}
	switch words[0] {
	case "look", "latest", "merge":
		return b.task(begin, words)
	}
	told, failed := b.do(words)
	if failed != api.OK {
		told = fmt.Sprint("error ", int(failed))
	}
	return begin + told + "\n"
}

// early: taken, full, nobody, down.
func (b *book) early(words []string) string {
	there := func(name, kind string) bool {
		return b.logs[name] != nil && kind != "client" || b.clients[name] != nil && kind != "log"
	}
	down := func(name string) bool {
		if l := b.logs[name]; l != nil {
			return l.open == nil
		}
		return b.clients[name].open == nil
	}
	word, first := words[0], words[1]
	if word == "log" || word == "client" {
		if there(first, "") {
			return "taken"
		}
		if word == "log" && len(b.logs) == 16 || word == "client" && len(b.clients) == 16 {
			return "full"
		}
	}
	var missing bool
	switch word {
	case "log":
	case "client":
		missing = !there(words[2], "log")
	case "add", "put", "ask", "head":
		missing = !there(first, "log")
	case "turn":
		missing = !there(first, "client") || !there(words[2], "log")
	case "merge", "judge":
		missing = !there(first, "client") || !there(words[2], "client")
	case "fail", "crash", "open":
		missing = !there(first, "")
	default:
		missing = !there(first, "client")
	}
	if missing {
		return "nobody"
	}
	switch word {
	case "add", "put", "ask", "head", "answer", "spoil", "look", "latest", "merge":
		if down(first) || word == "merge" && down(words[2]) {
			return "down"
		}
	}
	return ""
}

func atoi(s string) int {
	n, err := strconv.Atoi(s)
	if err != nil {
		panic(err)
	}
	return n
}

// do: a line that needs no network.
func (b *book) do(words []string) (string, api.Errno) {
	name, rest := words[1], words[2:]
	l, c := b.logs[name], b.clients[name]
	switch words[0] {
	case "log":
		return "ok", b.makeLog(name, rest)
	case "client":
		c := &bookClient{room: atoi(rest[2]), log: b.logs[rest[0]]}
		c.disk, _ = disk.New(1 << 30)
		c.config = client.Config{Origin: c.log.config.Origin, Verifier: c.log.verifier, Strength: c.log.config.Strength, Height: c.log.config.Height, Limit: atoi(rest[1])}
		_, e := c.reopen()
		if e == api.OK {
			b.clients[name] = c
		}
		return "ok", e
	case "add", "put":
		return l.take(words[0], rest)
	case "ask":
		return quoted(string(l.open.Serve([]byte(textOf(rest[0]))))), api.OK
	case "head":
		return fmt.Sprint(l.open.Size(), " ", quoted(string(l.open.Head()))), api.OK
	case "fail":
		kind := map[string]api.Errno{"io": api.ErrIO, "full": api.ErrFull, "dead": api.ErrDead}[rest[1]]
		if l != nil {
			return "ok", l.disk.Fail(atoi(rest[0]), kind)
		}
		return "ok", c.disk.Fail(atoi(rest[0]), kind)
	case "crash", "open":
		return b.reopen(l, c, words[0] == "crash", rest)
	case "turn":
		c.log = b.logs[rest[0]]
		return "ok", api.OK
	case "answer":
		c.answers = append(c.answers, textOf(rest[0]))
		return "ok", api.OK
	case "spoil":
		return c.spoil(atoi(rest[0]), atoi(rest[1]))
	}
	return b.judge(c, b.clients[rest[0]], textOf(rest[1]), textOf(rest[2]))
}

func (b *book) makeLog(name string, rest []string) api.Errno {
	origin := textOf(rest[0])
	signer, verifier, e := note.Generate(origin, atoi(rest[3]), sum("seed", atoi(rest[4])))
	if e != api.OK {
		return e
	}
	d, e := disk.New(int64(atoi(rest[5])))
	if e != api.OK {
		return e
	}
	l := &bookLog{disk: d, config: store.Config{Origin: origin, Signer: signer, Strength: atoi(rest[1]), Height: atoi(rest[2])}, verifier: verifier}
	if l.open, e = server.Create(d, l.config); e == api.OK {
		b.logs[name] = l
	}
	return e
}

// take: add and put.
func (l *bookLog) take(word string, rest []string) (string, api.Errno) {
	var records []string
	for len(rest) > 0 {
		if word == "put" {
			records = append(records, textOf(rest[0]))
			rest = rest[1:]
			continue
		}
		r, e := modver.Record(textOf(rest[0]), textOf(rest[1]), sum("tree", atoi(rest[2])), sum("mod", atoi(rest[2])))
		if e != api.OK {
			return "", e
		}
		records = append(records, r)
		rest = rest[3:]
	}
	ids, e := l.open.Append(records)
	told := "ok"
	for _, id := range ids {
		told += fmt.Sprint(" ", id)
	}
	return told, e
}

func (b *book) reopen(l *bookLog, c *bookClient, crash bool, rest []string) (string, api.Errno) {
	var choices []int
	for _, w := range rest {
		choices = append(choices, atoi(w))
	}
	if l == nil {
		if crash {
			c.disk = c.disk.Crash(choices)
		}
		size, e := c.reopen()
		return fmt.Sprint("ok ", size), e
	}
	if crash {
		l.disk = l.disk.Crash(choices)
	}
	var e api.Errno
	if l.open, e = server.Open(l.disk, l.config); e != api.OK {
		l.open = nil
		return "", e
	}
	return fmt.Sprint("ok ", l.open.Size()), api.OK
}

func (c *bookClient) reopen() (int64, api.Errno) {
	if c.open != nil {
		c.facts = append(c.facts, c.open.Facts()...)
	}
	c.open, c.answers = nil, nil
	files, e := cache.Open(c.disk, "c", c.room)
	if e != api.OK {
		return 0, e
	}
	s, e := client.New(c.config, files)
	if e != api.OK {
		return 0, e
	}
	c.files, c.open = files, s
	return s.Head().Size, api.OK
}

func (c *bookClient) spoil(n, bit int) (string, api.Errno) {
	tiles := c.files.List()
	if n >= len(tiles) {
		return "none", api.OK
	}
	path, _ := tile.Path(tiles[n])
	data, e := c.disk.Read("cache/c/" + path)
	if e != api.OK {
		return "", e
	}
	if 8*len(data) <= bit {
		return "none", api.OK
	}
	data[bit/8] ^= byte(1 << (bit % 8))
	return "ok", c.disk.Write("cache/c/"+path, bit/8, data[bit/8:bit/8+1])
}

func (c *bookClient) allFacts() []client.Fact {
	out := slices.Clone(c.facts)
	if c.open != nil {
		out = append(out, c.open.Facts()...)
	}
	return out
}

func (b *book) judge(c, d *bookClient, path, version string) (string, api.Errno) {
	k, fc, fd := c.config.Strength, c.allFacts(), d.allFacts()
	hc, e := evidence.Final(k, fc)
	if e != api.OK {
		return "", e
	}
	hd, e := evidence.Final(k, fd)
	if e != api.OK {
		return "", e
	}
	var link []api.Hash
	for _, f := range fc {
		if f.Kind != client.Accepted && hc.Size > hd.Size && f.Old == hd && f.Head == hc {
			link = f.Proof
		}
	}
	for _, f := range fd {
		if f.Kind != client.Accepted && hd.Size > hc.Size && f.Old == hc && f.Head == hd {
			link = f.Proof
		}
	}
	v, e := evidence.Judge(k, fc, fd, path, version, link)
	switch v.Kind {
	case evidence.Collision:
		return "collision " + quoted(string(v.Pair.A)) + " " + quoted(string(v.Pair.B)), e
	default:
		return fmt.Sprint("twice ", v.I, " ", v.J), e
	}
}

// task: look, latest and merge.
func (b *book) task(begin string, words []string) string {
	c := b.clients[words[1]]
	told := func(s ...any) string { return begin + fmt.Sprint(s...) + "\n" }
	var e api.Errno
	at := 2
	switch words[0] {
	case "look":
		e = c.open.Lookup(textOf(words[2]), textOf(words[3]))
		at = 4
	case "latest":
		e = c.open.Latest()
	default:
		other := b.clients[words[2]].open.Note()
		if len(other) == 0 {
			return told("none")
		}
		e = c.open.Merge(other)
		at = 3
	}
	if e != api.OK {
		return told("error ", int(e))
	}
	asked := b.network(c, atoi(words[at]), fatesOf(words[at+1:]))
	r := c.open.Result()
	story := told("error ", int(r.Err), " asked ", asked)
	if r.Err == api.OK && words[0] == "look" {
		story = told("ok ", r.Id, " asked ", asked, " ", quoted(r.Record))
	} else if r.Err == api.OK {
		story = told("ok asked ", asked)
	}
	h := c.open.Head()
	story += fmt.Sprintf("head %s %d %x\n", words[1], h.Size, h.Root[:])
	if r.Err != api.ErrFork {
		return story
	}
	story += fmt.Sprintf("fork %s %s %s %x %d", words[1], quoted(string(r.Fork.Small)), quoted(string(r.Fork.Great)), r.Fork.Root[:], int(evidence.CheckFork(c.config.Strength, c.config.Origin, c.config.Verifier, r.Fork)))
	for _, p := range r.Fork.Proof {
		story += fmt.Sprintf(" %x", p[:])
	}
	return story + "\n"
}

// fate: one message's.
type fate struct {
	letter byte
	n      int
}

func fatesOf(words []string) []fate {
	var out []fate
	for _, w := range words {
		times := 1
		if n, rest, ok := strings.Cut(w, "*"); ok {
			times, w = atoi(n), rest
		}
		f := fate{letter: w[0]}
		if len(w) > 1 {
			f.n = atoi(w[1:])
		}
		for range times {
			out = append(out, f)
		}
	}
	return out
}

// comes: the copies of a message, and how many ticks later each.
func (f fate) comes(message []byte) (copies [][]byte, later []int) {
	whole := slices.Clone(message)
	switch f.letter {
	case 'x':
		return nil, nil
	case 'b':
		return [][]byte{whole, slices.Clone(message)}, []int{0, f.n}
	case 'l':
		return [][]byte{whole}, []int{f.n}
	case 'c':
		whole = whole[:min(f.n, len(whole))]
	case 's':
		if f.n < len(whole) {
			whole[f.n] ^= 1
		}
	}
	return [][]byte{whole}, []int{0}
}

// post: one copy of a message that comes to a lane.
type post struct {
	on, at int
	data   []byte
}

// mail: everything that was ever sent in one round.
type mail struct {
	posts []post
	fates []fate
}

func (m *mail) send(on, now int, data []byte) {
	f := fate{letter: 'd'}
	if len(m.fates) > 0 {
		f, m.fates = m.fates[0], m.fates[1:]
	}
	copies, later := f.comes(data)
	for i := range copies {
		m.posts = append(m.posts, post{on, now + later[i], copies[i]})
	}
}

// taken: what has come to a lane up to now, by the tick at which it came, and goes from it.
func (m *mail) taken(on, now int) [][]byte {
	var there, left []post
	for _, p := range m.posts {
		if p.on == on && p.at <= now {
			there = append(there, p)
		} else {
			left = append(left, p)
		}
	}
	m.posts = left
	slices.SortStableFunc(there, func(a, b post) int { return cmp.Compare(a.at, b.at) })
	var out [][]byte
	for _, p := range there {
		out = append(out, p.data)
	}
	return out
}

// network: the exchanges; how many requests were sent.
func (b *book) network(c *bookClient, tries int, fates []fate) int {
	asked := 0
	for {
		wants := c.open.Wants()
		if len(wants) == 0 {
			return asked
		}
		b.sizes[fmt.Sprint(len(wants) > 32)]++
		some := min(32, len(wants))
		answers := make([][]byte, len(wants))
		m := &mail{fates: fates}
		missing := func() bool {
			return slices.ContainsFunc(answers[:some], func(a []byte) bool { return len(a) == 0 })
		}
		for try := 0; try < tries && missing(); try++ {
			for i := range some {
				if len(answers[i]) == 0 {
					asked++
					m.send(2*i, 9*try, wants[i])
				}
			}
			for now := 9 * try; now < 9*try+9; now++ {
				c.tick(m, some, now, answers)
			}
		}
		fates = m.fates
		c.open.Give(answers)
		if missing() {
			c.open.Quit()
		}
	}
}

// tick: what is there is answered, and then taken.
func (c *bookClient) tick(m *mail, some, now int, answers [][]byte) {
	for i := range some {
		for _, request := range m.taken(2*i, now) {
			var a []byte
			if len(c.answers) > 0 {
				a = []byte(c.answers[0])
				c.answers = c.answers[1:]
			} else if c.log.open != nil {
				a = c.log.open.Serve(request)
			}
			if len(a) > 0 {
				m.send(2*i+1, now, a)
			}
		}
	}
	for i := range some {
		for _, a := range m.taken(2*i+1, now) {
			if len(answers[i]) == 0 {
				answers[i] = a
			}
		}
	}
}

// files: of an actor's disk.
func (b *book) files(name string) []disk.File {
	if l := b.logs[name]; l != nil {
		return l.disk.Files()
	}
	return b.clients[name].disk.Files()
}
