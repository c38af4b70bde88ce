package client

import (
	"bytes"
	"slices"

	"ledger/api"
	"ledger/tile"
)

// phase: a part of a task: what it wants is asked when its turn comes, and when all of that has come (at once, if it is nothing) it takes the answers, in the order of the targets.
type phase struct {
	want func() []string // targets
	take func(answers [][]byte) error
}

// ask: a request that is wanted as long as it has no answer.
type ask struct {
	request, answer []byte
}

// task: a lookup, a latest or a merge.
type task struct {
	session *Client
	phases  []phase // the one under way first
	asks    []ask   // of the phase under way

	lookup       *lookup // nil in a latest and a merge
	fresh        signed  // the new head
	small, great signed  // the new head and the trusted one, by their sizes

	lists    [][]int64 // of places, each of which folds to one hash that is needed
	compared int       // so many of the lists compare the two heads: the first is of the smaller one's peaks, the others of the tree proof
	pieces   []piece   // the plan for all these places
	folds    []api.Hash
}

// piece: a tile of the plan.
type piece struct {
	tile   tile.Tile
	data   []byte // none, as long as it has not come
	cached bool
}

// lookup: what was asked for, and what was told of it.
type lookup struct {
	path, version string
	id            int64
	record        string
}

// newTask: with the phases that are the same for all tasks behind the one that tells the new head.
func newTask(c *Client, first func(t *task) phase) *task {
	t := &task{session: c}
	t.phases = []phase{
		first(t),
		{want: t.missing, take: t.read},
		{want: nothing, take: t.compare},
		{want: nothing, take: t.accept},
	}
	return t
}

func nothing() []string { return nil }

func only(target string) func() []string {
	return func() []string { return []string{target} }
}

func (c *Client) begin(t *task) {
	c.task = t
	t.ask()
	c.goOn()
}

// goOn: from phase to phase, up to one that waits for answers, or to the end.
func (c *Client) goOn() {
	t := c.task
	for len(t.open()) == 0 {
		if err := t.step(); err != nil || len(t.phases) == 0 {
			c.end(err)
			return
		}
	}
}

func (c *Client) end(err error) {
	c.last = c.task.result(err)
	c.task = nil
}

// open: the asks that have no answer yet.
func (t *task) open() []*ask {
	var open []*ask
	for i := range t.asks {
		if len(t.asks[i].answer) == 0 {
			open = append(open, &t.asks[i])
		}
	}
	return open
}

// ask: for what the phase that is now the first wants, if there is one left.
func (t *task) ask() {
	t.asks = nil
	if len(t.phases) == 0 {
		return
	}
	for _, target := range t.phases[0].want() {
		t.asks = append(t.asks, ask{request: requestOf(target)})
	}
}

// step: the first phase takes its answers and is done; it may have put others in its place.
func (t *task) step() error {
	done := t.phases[0]
	t.phases = t.phases[1:]
	var answers [][]byte
	for _, a := range t.asks {
		answers = append(answers, a.answer)
	}
	if err := done.take(answers); err != nil {
		return err
	}
	t.ask()
	return nil
}

func (t *task) result(err error) Result {
	if err != nil {
		return Result{Err: numberOf(err), Fork: forkOf(err)}
	}
	if t.lookup == nil {
		return Result{}
	}
	return Result{Id: t.lookup.id, Record: t.lookup.record}
}

func (f Fork) copied() Fork {
	return Fork{Small: bytes.Clone(f.Small), Great: bytes.Clone(f.Great), Root: f.Root, Proof: slices.Clone(f.Proof)}
}

func (f Fact) copied() Fact {
	f.Proof, f.Note = slices.Clone(f.Proof), bytes.Clone(f.Note)
	return f
}
