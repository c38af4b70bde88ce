package evidence_test

import (
	"bytes"
	"fmt"
	"slices"
	"strings"
	"testing"

	"ledger/api"
	"ledger/cache"
	"ledger/client"
	"ledger/disk"
	"ledger/evidence"
	"ledger/modver"
	"ledger/note"
	"ledger/tile"
	"ledger/tlog"
	"ledger/web"
)

const height = 2

// bytesOf: the tile of a target as of n.
func (b book) bytesOf(target string, n int64) []byte {
	t, e := tile.ParsePath(strings.TrimPrefix(target, "/"))
	if e != api.OK {
		panic(e)
	}
	var leaves []api.Hash
	for _, r := range b.records[:n] {
		leaves = append(leaves, leafOf(b.k, r))
	}
	stored, _ := tlog.Build(b.k, leaves)
	data, _ := tile.FromTree(stored, t)
	return data
}

// answer: of a log that tells id i to each lookup, and n as its size.
func (b book) answer(request []byte, i, n int64) []byte {
	r, _, e := web.ParseRequest(request)
	if e != api.OK {
		panic(e)
	}
	body := signed(b.head(n))
	switch {
	case strings.HasPrefix(r.Target, "/lookup/"):
		body = fmt.Appendf(nil, "%d\n%s\n%s", i, b.records[i], body)
	case strings.HasPrefix(r.Target, "/tile/"):
		body = b.bytesOf(r.Target, n)
	}
	out, _ := web.FormatResponse(web.Response{Status: 200, Minor: 1, Body: body})
	return out
}

// files: of a client, on a disk of their own.
func files() *cache.Cache {
	d, _ := disk.New(1 << 24)
	f, e := cache.Open(d, "c", 100)
	if e != api.OK {
		panic(e)
	}
	return f
}

func (b book) client(t *testing.T, f *cache.Cache) *client.Client {
	t.Helper()
	c, e := client.New(client.Config{Origin: origin, Verifier: verifier(), Strength: b.k, Height: height, Limit: 100000}, f)
	if e != api.OK {
		t.Fatal(e)
	}
	return c
}

// goOn: until the task ends. The tiles are those of the greater one of the two sizes.
func (b book) goOn(t *testing.T, c *client.Client, i, n int64) client.Result {
	t.Helper()
	for len(c.Wants()) > 0 {
		var answers [][]byte
		for _, w := range c.Wants() {
			size := n
			if bytes.Contains(w, []byte("/tile/")) {
				size = max(n, c.Head().Size)
			}
			answers = append(answers, b.answer(w, i, size))
		}
		if e := c.Give(answers); e != api.OK {
			t.Fatal(e)
		}
	}
	return c.Result()
}

// look: a lookup of record i that is told the size n.
func (b book) look(t *testing.T, c *client.Client, i, n int64) {
	t.Helper()
	p, v, _, _, _ := modver.ParseRecord(b.records[i])
	if e := c.Lookup(p, v); e != api.OK {
		t.Fatal(e)
	}
	if r := b.goOn(t, c, i, n); r.Err != api.OK || r.Id != i {
		t.Fatalf("Lookup: %+v", r)
	}
}

func (b book) latest(t *testing.T, c *client.Client, n int64) client.Result {
	t.Helper()
	c.Latest()
	return b.goOn(t, c, 0, n)
}

func TestFactsOfAClient(t *testing.T) { // P18.1, P18.2, P18.3: a session's facts are a transcript, and tell its head and what it accepted
	for _, k := range []int{0, 1, 31} {
		b := bookOf(k, 12)
		c := b.client(t, files())
		for _, step := range []struct{ i, n int64 }{{0, 1}, {0, 1}, {2, 3}, {1, 7}, {0, 4}, {6, 7}, {11, 12}, {3, 12}, {3, 5}} {
			b.look(t, c, step.i, step.n)
			b.latest(t, c, step.n)
			isTranscript(t, "of a client", k, c.Facts(), c.Head())
			p, v, _, _, _ := modver.ParseRecord(b.records[step.i])
			f, e := evidence.Find(k, c.Facts(), p, v)
			if e != api.OK || f.Id != step.i || f.Record != b.records[step.i] || f.Path != p || f.Version != v || f.Kind != client.Accepted {
				t.Errorf("Find = %+v, %d", f, int(e))
			}
		}
		kinds := map[int]int{}
		for _, f := range c.Facts() {
			kinds[f.Kind]++
		}
		if len(kinds) != 3 {
			t.Errorf("the session has facts of %v", kinds)
		}
		isTranscript(t, "of a client that did nothing", k, b.client(t, files()).Facts(), note.Head{Root: hashOf(k)})
	}
}

func TestSessionsBehindOneAnother(t *testing.T) { // P18.1: a session that began with a head has a transcript behind the facts of those ahead of it
	b := bookOf(0, 9)
	f := files()
	first := b.client(t, f)
	b.look(t, first, 1, 5)
	second := b.client(t, f)
	b.look(t, second, 2, 5)
	isNone(t, "the second session", 0, second.Facts(), api.ErrTranscript)
	b.look(t, second, 8, 9)
	isNone(t, "the second session, moved", 0, second.Facts()[1:], api.ErrTranscript)
	isTranscript(t, "both", 0, append(first.Facts(), second.Facts()...), b.head(9))
	isNone(t, "both, changed about", 0, append(second.Facts(), first.Facts()...), api.ErrTranscript)
}

func TestClientsOfALogThatCheats(t *testing.T) { // P18.4, P18.6: one tree, two records of one key, told to two clients
	b := bookOf(0, 9)
	b.records[2], b.records[7] = rec(path, 1), rec(path, 2)
	c, d := b.client(t, files()), b.client(t, files())
	b.look(t, c, 2, 4)
	b.look(t, d, 7, 8)
	v := evidence.Verdict{Kind: evidence.Twice, I: 2, J: 7, A: b.records[2], B: b.records[7]}
	expect := func(n int64) evidence.Verdict {
		v.Head, v.PA, v.PB = b.head(n), b.recordProof(n, 2), b.recordProof(n, 7)
		return v
	}
	judges(t, "linked", 0, c.Facts(), d.Facts(), b.treeProof(8, 4), expect(8))
	b.latest(t, d, 4) // told the smaller head, d comes to know the link
	link := d.Facts()[len(d.Facts())-1]
	if link.Kind != client.Agreed || link.Old != c.Head() || link.Head != d.Head() {
		t.Fatalf("the last fact is %+v", link)
	}
	judges(t, "linked by a fact", 0, c.Facts(), d.Facts(), link.Proof, expect(8))
	b.latest(t, c, 8)
	judges(t, "of one size", 0, c.Facts(), d.Facts(), nil, expect(8))
	b.latest(t, c, 9)
	judges(t, "the other one greater", 0, c.Facts(), d.Facts(), b.treeProof(9, 8), expect(9))
}

func TestForkOfAClient(t *testing.T) { // P18.7, P18.4: what a client tells as a fork stands by itself, and its facts prove nothing with the other's
	for _, k := range []int{0, 31} {
		b := bookOf(k, 9)
		other := book{k, slices.Clone(b.records)}
		b.records[2], other.records[2] = rec(path, 1), rec(path, 2)
		for m := int64(3); m <= 9; m++ {
			for n := int64(3); n <= 9; n++ {
				c, d := b.client(t, files()), other.client(t, files())
				b.look(t, c, 2, m)
				other.look(t, d, 2, n)
				c.Merge(d.Note())
				from := other
				if m > n {
					from = b
				}
				r := from.goOn(t, c, 0, n)
				if r.Err != api.ErrFork {
					t.Fatalf("Merge: %+v", r)
				}
				want(t, "CheckFork", evidence.CheckFork(k, origin, verifier(), r.Fork), api.OK)
				turned := r.Fork
				turned.Small, turned.Great = turned.Great, turned.Small
				if e := evidence.CheckFork(k, origin, verifier(), turned); e == api.OK || m != n && e != api.ErrArg {
					t.Errorf("CheckFork, changed about = %d", int(e))
				}
				var link []api.Hash
				if m != n {
					link = from.treeProof(max(m, n), min(m, n))
				}
				refuses(t, "a fork", k, c.Facts(), d.Facts(), link, api.ErrTranscript)
			}
		}
	}
}
