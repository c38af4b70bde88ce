package audit_test

import (
	"fmt"
	"iter"
	"regexp"
	"strconv"
	"testing"

	"ledger/api"
	"ledger/audit"
	"ledger/client"
	"ledger/modver"
	"ledger/note"
	"ledger/web"
)

// model: an auditor as the chapter's words tell it: a reading is one function from its beginning to its end, which stops wherever it asks for answers; all else is gone through anew each time.
type model struct {
	c       client.Config
	message string
	records []string
	result  api.Errno
	under   bool
	targets []string
	answers [][]byte
	goOn    func() ([]string, bool)
	quit    func()
}

// failed: thrown where a reading ends ahead of its end.
type failed api.Errno

func mustBe(is bool, e api.Errno) {
	if !is {
		panic(failed(e))
	}
}

func newModel(c client.Config) (*model, api.Errno) {
	_, text := note.ParseVerifier(c.Verifier)
	if note.CheckName(c.Origin) != api.OK || text != api.OK || c.Height < 1 || c.Height > 8 || c.Limit < 1 || c.Limit > 1048576 {
		return nil, api.ErrConfig
	}
	return &model{c: c, result: api.ErrState}, api.OK
}

var numberLine = regexp.MustCompile(`^(0|[1-9][0-9]*)\n`)

func loadModel(c client.Config, state string) (m *model, e api.Errno) {
	m, e = newModel(c)
	if e != api.OK {
		return nil, e
	}
	defer func() {
		if r := recover(); r != nil {
			m, e = nil, api.ErrSaved
		}
	}()
	line := numberLine.FindString(state)
	mustBe(line != "", api.ErrSaved)
	n, err := strconv.Atoi(line[:len(line)-1])
	state = state[len(line):]
	mustBe(err == nil && n <= 65536 && n <= len(state), api.ErrSaved)
	m.message, state = state[:n], state[n:]
	for state != "" {
		mustBe(len(state) >= 2, api.ErrSaved)
		length := int(state[0])*256 + int(state[1])
		mustBe(length <= 1024 && len(state) >= 2+length, api.ErrSaved)
		_, _, _, _, e := modver.ParseRecord(state[2 : 2+length])
		mustBe(e == api.OK, api.ErrSaved)
		m.records, state = append(m.records, state[2:2+length]), state[2+length:]
	}
	mustBe(len(m.records) <= 65536 && (n == 0) == (len(m.records) == 0), api.ErrSaved)
	if n > 0 {
		h := m.readHead(m.message)
		mustBe(h.Size == int64(len(m.records)) && h.Root == rootOf(c.Strength, m.records), api.ErrSaved)
	}
	return m, api.OK
}

func (m *model) head() note.Head {
	return note.Head{Origin: m.c.Origin, Size: int64(len(m.records)), Root: rootOf(m.c.Strength, m.records)}
}

func (m *model) readHead(message string) note.Head {
	n, e := note.Open([]byte(message), []string{m.c.Verifier})
	mustBe(e == api.OK, e)
	h, e := note.ParseHead(n.Text)
	mustBe(e == api.OK, api.ErrHead)
	mustBe(h.Origin == m.c.Origin, api.ErrOrigin)
	mustBe(h.Size != 0 || h.Root == hashOf(m.c.Strength), api.ErrHead)
	return h
}

func (m *model) look(answer []byte) string {
	mustBe(len(answer) <= m.c.Limit, api.ErrResponse)
	r, n, e := web.ParseResponse(answer)
	mustBe(e == api.OK && n == len(answer), api.ErrResponse)
	mustBe(r.Status == 200, api.ErrRefused)
	return string(r.Body)
}

// cut: a data tile of w records.
func cut(body string, w int) []string {
	var out []string
	for range w {
		mustBe(len(body) >= 2, api.ErrBody)
		length := int(body[0])*256 + int(body[1])
		mustBe(length <= 1024 && len(body) >= 2+length, api.ErrBody)
		out, body = append(out, body[2:2+length]), body[2+length:]
	}
	mustBe(body == "", api.ErrBody)
	return out
}

// reading: numbers 1 to 4.
func (m *model) reading(ask func(targets ...string) [][]byte) {
	message := m.look(ask("/latest")[0])
	h := m.readHead(message)
	have := len(m.records)
	mustBe(h.Size <= 65536, api.ErrLong)
	n := int(h.Size)
	if n <= have {
		mustBe(rootOf(m.c.Strength, m.records[:n]) == h.Root, api.ErrFork)
		return
	}
	width := 1 << m.c.Height
	records := m.records[:have/width*width]
	for first := have / width; first <= (n-1)/width; first += 64 {
		var targets []string
		var widths []int
		for i := first; i < first+64 && i <= (n-1)/width; i++ {
			w := min(width, n-i*width)
			targets, widths = append(targets, pathOfData(m.c.Height, i, w)), append(widths, w)
		}
		for i, answer := range ask(targets...) {
			for _, r := range cut(m.look(answer), widths[i]) {
				_, _, _, _, e := modver.ParseRecord(r)
				mustBe(e == api.OK, e)
				id := len(records)
				mustBe(id >= have || r == m.records[id], api.ErrAuth)
				records = append(records[:id:id], r)
			}
		}
	}
	mustBe(rootOf(m.c.Strength, records) == h.Root, api.ErrAuth)
	m.message, m.records = message, records
}

func (m *model) Read() api.Errno {
	if m.under {
		return api.ErrState
	}
	run := func(yield func([]string) bool) {
		defer func() {
			if r := recover(); r != nil {
				m.result = api.Errno(r.(failed))
			}
		}()
		m.reading(func(targets ...string) [][]byte {
			mustBe(yield(targets), api.ErrTimeout)
			return m.answers
		})
		m.result = api.OK
	}
	m.goOn, m.quit = iter.Pull(run)
	m.next()
	return api.OK
}

func (m *model) next() {
	m.targets, m.under = m.goOn()
	m.answers = make([][]byte, len(m.targets))
}

// open: the places of the answers that have not come.
func (m *model) open() []int {
	var open []int
	for i, a := range m.answers {
		if m.under && len(a) == 0 {
			open = append(open, i)
		}
	}
	return open
}

func (m *model) Wants() [][]byte {
	var out [][]byte
	for _, i := range m.open() {
		out = append(out, []byte("GET "+m.targets[i]+" HTTP/1.1\r\nHost: ledger\r\n\r\n"))
	}
	return out
}

func (m *model) Give(responses [][]byte) api.Errno {
	open := m.open()
	switch {
	case !m.under:
		return api.ErrState
	case len(responses) != len(open):
		return api.ErrCount
	}
	for i, at := range open {
		m.answers[at] = responses[i]
	}
	if len(m.open()) == 0 {
		m.next()
	}
	return api.OK
}

func (m *model) Quit() api.Errno {
	if !m.under {
		return api.ErrState
	}
	m.quit()
	m.under = false
	return api.OK
}

func (m *model) Result() api.Errno {
	if m.under {
		return api.ErrState
	}
	return m.result
}

// climb: where a record proof leads, by PATH's definition read backwards; false, if it has another length.
func climb(k, n, i int, leaf api.Hash, proof []api.Hash) (api.Hash, bool) {
	if n == 1 {
		return leaf, len(proof) == 0
	}
	if len(proof) == 0 {
		return api.Hash{}, false
	}
	last := proof[len(proof)-1]
	if i < half(n) {
		h, whole := climb(k, half(n), i, leaf, proof[:len(proof)-1])
		return hashOf(k, []byte{1}, h[:], last[:]), whole
	}
	h, whole := climb(k, n-half(n), i-half(n), leaf, proof[:len(proof)-1])
	return hashOf(k, []byte{1}, last[:], h[:]), whole
}

func (m *model) Holds(f client.Fact) api.Errno {
	if f.Kind != 1 || f.Head.Size < 1 || f.Head.Size > int64(len(m.records)) || f.Id < 0 || f.Id >= f.Head.Size {
		return api.ErrArg
	}
	k, n, i := m.c.Strength, int(f.Head.Size), int(f.Id)
	path, version, _, _, e := modver.ParseRecord(f.Record)
	root, whole := climb(k, n, i, leafOf(k, f.Record), f.Proof)
	switch {
	case e != api.OK || path != f.Path || version != f.Version || !whole || root != f.Head.Root:
		return api.ErrTranscript
	case rootOf(k, m.records[:n]) != f.Head.Root:
		return api.ErrNothing
	case m.records[i] != f.Record:
		return api.ErrInclusion
	}
	return api.OK
}

// pair: an auditor and the model; all that is done to the one is done to the other.
type pair struct {
	t     *testing.T
	conf  client.Config
	a     *audit.Auditor
	m     *model
	calls int
}

func newPair(t *testing.T, conf client.Config) *pair {
	t.Helper()
	a, e := audit.New(conf)
	m, f := newModel(conf)
	if e != api.OK || f != api.OK {
		t.Fatalf("New = %d, %d", int(e), int(f))
	}
	p := &pair{t: t, conf: conf, a: a, m: m}
	t.Cleanup(func() { p.m.Quit() })
	p.agree("New")
	return p
}

// agree: all that the two tell is the same.
func (p *pair) agree(what string) {
	p.t.Helper()
	p.calls++
	what = fmt.Sprintf("call %d, %s", p.calls, what)
	if got, want := targetsIn(p.a.Wants()), targetsIn(p.m.Wants()); got != want {
		p.t.Fatalf("%s: wants %q; want %q", what, got, want)
	}
	if got, want := p.a.Result(), p.m.Result(); got != want {
		p.t.Fatalf("%s: Result = %d; want %d", what, int(got), int(want))
	}
	if got, want := told(p.a), toldOf(p.m.head(), p.m.message, p.m.records); got != want {
		p.t.Fatalf("%s: tells\n%.4000s; want\n%.4000s", what, got, want)
	}
}

// both: a call of the two.
func (p *pair) both(what string, got, want api.Errno) api.Errno {
	p.t.Helper()
	if got != want {
		p.t.Fatalf("call %d, %s = %d; want %d", p.calls, what, int(got), int(want))
	}
	p.agree(what)
	return got
}

func (p *pair) Read() api.Errno {
	p.t.Helper()
	return p.both("Read", p.a.Read(), p.m.Read())
}

func (p *pair) Wants() [][]byte { return p.a.Wants() }

func (p *pair) Give(responses [][]byte) api.Errno {
	p.t.Helper()
	return p.both("Give", p.a.Give(responses), p.m.Give(responses))
}

func (p *pair) Quit() api.Errno {
	p.t.Helper()
	return p.both("Quit", p.a.Quit(), p.m.Quit())
}

func (p *pair) Holds(f client.Fact) api.Errno {
	p.t.Helper()
	got, want := p.a.Holds(f), p.m.Holds(f)
	if got != want {
		p.t.Fatalf("call %d, Holds = %d; want %d of %+v", p.calls, int(got), int(want), f)
	}
	return got
}

// Load: what a state makes of the two, each in the other's place, if both take it.
func (p *pair) Load(state string) api.Errno {
	p.t.Helper()
	a, e := audit.Load(p.conf, []byte(state))
	m, f := loadModel(p.conf, state)
	if e != f || (a != nil) != (e == api.OK) {
		p.t.Fatalf("call %d, Load = %v, %d; want %d of %q", p.calls, a != nil, int(e), int(f), state)
	}
	if e == api.OK {
		p.m.Quit()
		p.a, p.m = a, m
		p.agree("Load")
		if string(a.Save()) != state {
			p.t.Fatalf("call %d: Save of what Load took = %q; want %q", p.calls, a.Save(), state)
		}
	}
	return e
}
