package evidence_test

import (
	"math/rand"
	"slices"
	"testing"

	"ledger/api"
	"ledger/client"
	"ledger/evidence"
	"ledger/note"
	"ledger/proof"
	"ledger/tlog"
)

// session: goes by these sizes of the book, and accepts record i under the one that is named, and again under all behind it.
func (b book) session(i, under int64, sizes ...int64) []client.Fact {
	var facts []client.Fact
	at := int64(0)
	for _, n := range sizes {
		facts = append(facts, b.moved(at, n))
		if n > 1 {
			facts = append(facts, b.agreed(n-1, n))
		}
		if n >= under {
			facts = append(facts, b.accepted(i, n))
		}
		at = n
	}
	return facts
}

// course: by which sizes a session goes, and under which of them it accepts its record.
type course struct {
	under int64
	sizes []int64
}

func (c course) last() int64 { return c.sizes[len(c.sizes)-1] }

// courses: all of at most three sizes by which a session can accept record i.
func courses(i, size int64) []course {
	var out []course
	for under := i + 1; under <= size; under++ {
		out = append(out, course{under, []int64{under}})
		for n := int64(1); n < under; n++ {
			out = append(out, course{under, []int64{n, under}})
		}
		for n := under + 1; n <= size; n++ {
			out = append(out, course{under, []int64{under, n}})
			for m := n + 1; m <= size; m++ {
				out = append(out, course{under, []int64{under, n, m}})
			}
		}
	}
	return out
}

func TestTwiceInALog(t *testing.T) { // P18.4, P18.6: a tree that holds two records of one key, wherever they stand and however the sessions came by them
	t.Parallel()
	const size = 5
	for i := range int64(size) {
		for j := i + 1; j < size; j++ {
			b := bookOf(0, size)
			b.records[i], b.records[j] = rec(path, 1), rec(path, 2)
			for _, x := range courses(i, size) {
				for _, y := range courses(j, size) {
					twice(t, b, i, j, x, y)
				}
			}
		}
	}
}

// twice: the verdict on two sessions that have accepted i and j, with the link that there is and with others.
func twice(t *testing.T, b book, i, j int64, x, y course) {
	t.Helper()
	one, two := b.session(i, x.under, x.sizes...), b.session(j, y.under, y.sizes...)
	great, small := max(x.last(), y.last()), min(x.last(), y.last())
	link := b.treeProof(great, small)
	v := evidence.Verdict{Kind: evidence.Twice, Head: b.head(great), I: i, J: j, A: b.records[i], B: b.records[j], PA: b.recordProof(great, i), PB: b.recordProof(great, j)}
	judges(t, "twice", b.k, one, two, link, v)
	judges(t, "twice, turned about", b.k, two, one, link, v)
	for _, wrong := range wrongProofs(link) {
		refuses(t, "a wrong link", b.k, one, two, wrong, api.ErrTranscript)
	}
}

func TestCollisionOfRecords(t *testing.T) { // P18.4, P18.6: two records of one key and one leaf hash, at one id
	t.Parallel()
	const size = 5
	b := bookOf(1, size)
	for i := range int64(size) {
		b.records[i] = rec(path)
		other := book{1, slices.Clone(b.records)}
		other.records[i] = meeting(path, leafOf(1, rec(path)))
		r, s := []byte(leafBytes(b.records[i])), []byte(leafBytes(other.records[i]))
		for _, x := range courses(i, size) {
			for _, y := range courses(i, size) {
				one, two := b.session(i, x.under, x.sizes...), other.session(i, y.under, y.sizes...)
				link := b.treeProof(max(x.last(), y.last()), min(x.last(), y.last()))
				judges(t, "one leaf hash", 1, one, two, link, evidence.Verdict{Kind: evidence.Collision, Pair: proof.Pair{A: r, B: s}})
				judges(t, "one leaf hash, turned about", 1, two, one, link, evidence.Verdict{Kind: evidence.Collision, Pair: proof.Pair{A: s, B: r}})
			}
		}
		b.records[i] = bookOf(1, size).records[i]
	}
}

func TestCollisionOfNodes(t *testing.T) { // P18.4: records at one id whose leaf hashes part: where the climbs meet
	f := forger{rand.New(rand.NewSource(1))}
	r, s := rec(path, 1), rec(path, 2)
	if leafOf(1, r) == leafOf(1, s) {
		t.Fatal("the leaf hashes are the same")
	}
	two := head(2, f.root())
	for id := range int64(2) {
		p, q := f.recordProof(two, id, r), f.recordProof(two, id, s)
		a := []client.Fact{moved(empty(1), two), accepted(r, id, two, p...)}
		b := []client.Fact{moved(empty(1), two), accepted(s, id, two, q...)}
		pair := proof.Pair{A: []byte(nodeBytes(leafOf(1, r), p[0])), B: []byte(nodeBytes(leafOf(1, s), q[0]))}
		if id == 1 {
			pair = proof.Pair{A: []byte(nodeBytes(p[0], leafOf(1, r))), B: []byte(nodeBytes(q[0], leafOf(1, s)))}
		}
		judges(t, "one root", 1, a, b, nil, evidence.Verdict{Kind: evidence.Collision, Pair: pair})
		judges(t, "one root, turned about", 1, b, a, nil, evidence.Verdict{Kind: evidence.Collision, Pair: proof.Pair{A: pair.B, B: pair.A}})
	}
}

// parting: a session at a tree of three whose record proof says otherwise of the root's children than the tree proof of the step to four; and the pair.
func (r forger) parting(three, four note.Head, salt byte) (start []client.Fact, step []api.Hash, v evidence.Verdict) {
	record := rec(path, salt)
	for {
		p, q := r.recordProof(three, 0, record), r.treeProof(four, three)
		left, right := nodeOf(1, leafOf(1, record), p[0]), p[1]
		if said, told := nodeBytes(left, right), nodeBytes(q[2], q[0]); said != told {
			start = []client.Fact{moved(empty(1), three), accepted(record, 0, three, p...)}
			return start, q, evidence.Verdict{Kind: evidence.Collision, Pair: proof.Pair{A: []byte(said), B: []byte(told)}}
		}
	}
}

func TestLiftingsThatPart(t *testing.T) { // P18.4: a's liftings come ahead of b's, the moves' ahead of the link's, and all of them ahead of the ids
	f := forger{rand.New(rand.NewSource(2))}
	three, four, five := head(3, f.root()), head(4, f.root()), head(5, f.root())
	x, p, vx := f.parting(three, four, 1)
	y, q, vy := f.parting(three, four, 2)
	moveX, moveY := moved(three, four, p...), moved(three, four, q...)
	right := []client.Fact{moved(empty(1), four), accepted(rec(path, 3), 2, four, f.recordProof(four, 2, rec(path, 3))...)}

	judges(t, "a's move", 1, append(x, moveX), right, nil, vx)
	judges(t, "b's move", 1, right, append(x, moveX), nil, vx)
	judges(t, "a's link", 1, x, right, p, vx)
	judges(t, "b's link", 1, right, x, p, vx)
	judges(t, "both moves", 1, append(x, moveX), append(y, moveY), nil, vx)
	judges(t, "both moves, turned about", 1, append(y, moveY), append(x, moveX), nil, vy)
	judges(t, "a's link, b's move", 1, x, append(y, moveY), p, vx)
	judges(t, "a's move, b's link", 1, append(y, moveY), x, p, vy)
	link := f.treeProof(five, four)
	far := []client.Fact{moved(empty(1), five), accepted(rec(path, 4), 4, five, f.recordProof(five, 4, rec(path, 4))...)}
	judges(t, "a's move, ahead of its link", 1, append(x, moveX), far, link, vx)
	judges(t, "b's move, ahead of its link", 1, far, append(x, moveX), link, vx)
}

func TestMovesAheadOfTheRecord(t *testing.T) { // P18.4: only those behind it lift it, and Agreed never does
	f := forger{rand.New(rand.NewSource(3))}
	three, four := head(3, f.root()), head(4, f.root())
	r, s := rec(path, 1), rec(path, 2)
	a := []client.Fact{moved(empty(1), three), f.moved(three, four), accepted(r, 1, four, f.recordProof(four, 1, r)...), agreed(three, four, f.treeProof(four, three)...), f.agreed(four)}
	b := []client.Fact{moved(empty(1), four), accepted(s, 3, four, f.recordProof(four, 3, s)...)}
	judges(t, "no lifting", 1, a, b, nil, evidence.Verdict{Kind: evidence.Twice, Head: four, I: 1, J: 3, A: r, B: s, PA: a[2].Proof, PB: b[1].Proof})
}

func TestFirstRecordsCount(t *testing.T) { // P18.4: what a session accepted later for the key is not looked at
	b := bookOf(0, 3)
	b.records[0], b.records[2] = rec(path, 1), rec(path, 2)
	both := []client.Fact{b.moved(0, 3), b.accepted(0, 3), b.accepted(2, 3)}
	turned := []client.Fact{b.moved(0, 3), b.accepted(2, 3), b.accepted(0, 3)}
	one := []client.Fact{b.moved(0, 3), b.accepted(0, 3)}
	refuses(t, "one and both", 0, one, both, nil, api.ErrNothing)
	refuses(t, "both with itself", 0, both, both, nil, api.ErrNothing)
	v := evidence.Verdict{Kind: evidence.Twice, Head: b.head(3), I: 0, J: 2, A: b.records[0], B: b.records[2], PA: b.recordProof(3, 0), PB: b.recordProof(3, 2)}
	judges(t, "one and the other first", 0, one, turned, nil, v)
	judges(t, "both, turned about", 0, turned, both, nil, v)
}

func TestTheSameRecordTwice(t *testing.T) { // P18.4: the same text at two ids proves nothing
	b := bookOf(0, 3)
	b.records[0], b.records[2] = rec(path), rec(path)
	refuses(t, "the same text", 0, b.session(0, 1, 1), b.session(2, 3, 3), b.treeProof(3, 1), api.ErrNothing)
	refuses(t, "the same text, without a link", 0, b.session(0, 1, 1), b.session(2, 3, 3), nil, api.ErrNothing)
}

func TestJudgeErrorsInTheirOrder(t *testing.T) { // P18.4, P0.1: each error beside all that are named behind it
	b := bookOf(0, 4)
	b.records[0], b.records[3] = rec(path, 1), rec(path, 2)
	fork := book{0, slices.Clone(b.records)}
	fork.records[1] = rec("c.example")
	foreign := func(facts []client.Fact) []client.Fact {
		facts = slices.Clone(facts)
		for i := range facts {
			facts[i].Head.Origin = "p"
			if facts[i].Kind != client.Accepted {
				facts[i].Old.Origin = "p"
			}
		}
		return facts
	}
	one, two := b.session(0, 2, 2), b.session(3, 4, 4)
	bad := []client.Fact{b.accepted(0, 2)}
	long := slices.Repeat(bad, 1025)
	same := fork.session(0, 4, 4)
	other := b.session(2, 3, 3) // of another key
	link := b.treeProof(4, 2)
	for what, c := range map[string]struct {
		a, b []client.Fact
		link []api.Hash
		e    api.Errno
	}{
		"a no transcript, b without facts": {bad, nil, nil, api.ErrTranscript},
		"b no transcript, a without facts": {nil, bad, nil, api.ErrTranscript},
		"a too long":                       {long, nil, nil, api.ErrTranscript},
		"b too long":                       {other, long, nil, api.ErrTranscript},
		"two origins":                      {one, foreign(two), link, api.ErrTranscript},
		"two origins, absent in a":         {other, foreign(one), nil, api.ErrTranscript},
		"two origins, the same record":     {one, foreign(one), nil, api.ErrTranscript},
		"two origins, a move alone":        {foreign(two)[:1], one, nil, api.ErrTranscript},
		"a without facts":                  {nil, foreign(two), link, api.ErrAbsent},
		"b without facts":                  {foreign(two), nil, link, api.ErrAbsent},
		"both without facts":               {nil, nil, link, api.ErrAbsent},
		"absent in a":                      {other, two, nil, api.ErrAbsent},
		"absent in b":                      {one, other, nil, api.ErrAbsent},
		"absent in b, linked":              {one, other, b.treeProof(3, 2), api.ErrAbsent},
		"the same record":                  {one, one, link, api.ErrNothing},
		"the same record, heads that part": {one, same, nil, api.ErrNothing},
		"no link":                          {one, two, nil, api.ErrTranscript},
		"the smaller one's link":           {one, two, b.treeProof(3, 2), api.ErrTranscript},
		"a link that is too long":          {one, two, append(b.treeProof(4, 2), api.Hash{}), api.ErrTranscript},
		"a link of one size":               {two, b.session(0, 2, 2, 4), []api.Hash{{}}, api.ErrTranscript},
		"heads of one size that part":      {two, fork.session(0, 4, 4), nil, api.ErrTranscript},
		"heads that part":                  {fork.session(0, 2, 2), two, link, api.ErrTranscript},
		"heads that part, by its own link": {fork.session(0, 2, 2), two, fork.treeProof(4, 2), api.ErrTranscript},
	} {
		refuses(t, what, 0, c.a, c.b, c.link, c.e)
	}
	if _, e := evidence.Judge(0, foreign(one), foreign(two), path, version, link); e != api.OK {
		t.Errorf("Judge of two sessions of another origin = %d", int(e))
	}
	if _, e := evidence.Judge(1, one, two, path, version, link); e != api.ErrTranscript {
		t.Errorf("Judge by another strength = %d", int(e))
	}
}

func TestVerdictOnGreatTrees(t *testing.T) { // P18.4, P18.5, P18.6: of 2^48 records, and a session that came there by all powers of two
	r, s := rec(path, 1), rec(path, 2)
	last := int64(api.MaxRecords - 1)
	q := make([]api.Hash, 47)
	for j := range q {
		q[j] = api.Hash{1, byte(j)}
	}
	right, _ := climbRecord(0, q, last, api.MaxRecords/2, api.MaxRecords, leafOf(0, s))
	at := head(1, leafOf(0, r))
	facts := []client.Fact{moved(empty(0), at), accepted(r, 0, at)}
	var p []api.Hash
	for n := int64(2); n <= api.MaxRecords; n *= 2 {
		beside := api.Hash{byte(n), byte(n >> 8), 9}
		if n == api.MaxRecords {
			beside = right
		}
		next := head(n, nodeOf(0, at.Root, beside))
		facts = append(facts, moved(at, next, beside))
		p, at = append(p, beside), next
	}
	q = append(q, facts[len(facts)-1].Old.Root)
	other := []client.Fact{moved(empty(0), at), accepted(s, last, at, q...)}
	v := evidence.Verdict{Kind: evidence.Twice, Head: at, I: 0, J: last, A: r, B: s, PA: p, PB: q}
	judges(t, "the first and the last", 0, facts, other, nil, v)
	judges(t, "the last and the first", 0, other, facts, nil, v)
	judges(t, "linked", 0, facts[:len(facts)-1], other, []api.Hash{right}, v)
	v.Head.Size++
	if evidence.Holds(0, v, path, version) {
		t.Error("a verdict on a tree of more than 2^48 records holds")
	}
}

func TestLongTranscripts(t *testing.T) { // P18.1, P18.4: 1024 facts, all of them moves but one
	t.Parallel()
	var leaves []api.Hash
	r, s := rec(path, 1), rec(path, 2)
	for i := range 1024 {
		record := rec("b.example", byte(i), byte(i>>8))
		switch i {
		case 0:
			record = r
		case 1023:
			record = s
		}
		leaves = append(leaves, leafOf(0, record))
	}
	stored, _ := tlog.Build(0, leaves)
	headOf := func(n int64) note.Head {
		root, _ := tlog.Root(0, stored, n)
		return head(n, root)
	}
	facts := []client.Fact{moved(empty(0), headOf(1)), accepted(r, 0, headOf(1))}
	for n := int64(2); n <= 1023; n++ {
		p, _ := proof.Tree(0, stored, n, n-1)
		facts = append(facts, moved(headOf(n-1), headOf(n), p...))
	}
	isTranscript(t, "1024 facts", 0, facts, headOf(1023))
	link, _ := proof.Tree(0, stored, 1024, 1023)
	p, _ := proof.Record(0, stored, 1024, 0)
	q, _ := proof.Record(0, stored, 1024, 1023)
	other := []client.Fact{moved(empty(0), headOf(1024)), accepted(s, 1023, headOf(1024), q...)}
	judges(t, "1024 facts", 0, facts, other, link, evidence.Verdict{Kind: evidence.Twice, Head: headOf(1024), I: 0, J: 1023, A: r, B: s, PA: p, PB: q})
	facts = append(facts, moved(headOf(1023), headOf(1024), link...))
	refuses(t, "1025 facts", 0, facts, other, nil, api.ErrTranscript)
}
