package world_test

import (
	"fmt"
	"testing"

	"ledger/api"
	"ledger/world"
)

// sumLike: the first sum from n on for which the record of this key has the leaf hash of another, of strength k.
func sumLike(k int, path string, n int, other string) int {
	for leaf(k, record(path, "v1.0.0", n)) != leaf(k, other) {
		n++
	}
	return n
}

// twins: two logs of one origin, key and strength 1, and a client of each.
func twins(t *testing.T) *world.World {
	t.Helper()
	return played(t, "log a log.example 1 1 2 1 1000000", "log b log.example 1 1 2 1 1000000", clientLine("c", "a"), "client d b 100000 0")
}

func addLine(log, path string, n int) string {
	return fmt.Sprintf("add %s %s v1.0.0 %d", log, path, n)
}

const (
	pathP = "m.example/p"
	pathQ = "m.example/q"
	pathR = "m.example/r"
)

func TestJudgeCollision(t *testing.T) { // P20.3: two records of one leaf hash, told as the bytes that were hashed
	r := record(pathP, "v1.0.0", 1)
	n := sumLike(1, pathP, 2, r)
	w := twins(t)
	for _, line := range []string{addLine("a", pathP, 1), addLine("b", pathP, n), "look c m.example/p v1.0.0 1", "look d m.example/p v1.0.0 1"} {
		does(t, w, line)
	}
	one, other := quoted("\x00"+r), quoted("\x00"+record(pathP, "v1.0.0", n))
	tells(t, w, "judge c d m.example/p v1.0.0", "judge c collision "+one+" "+other+"\n")
	tells(t, w, "judge d c m.example/p v1.0.0", "judge d collision "+other+" "+one+"\n")
	tells(t, w, "judge c c m.example/p v1.0.0", refused("judge c", api.ErrNothing))
	tells(t, w, "judge c d m.example/q v1.0.0", refused("judge c", api.ErrAbsent))
	tells(t, w, `judge c d "" ""`, refused("judge c", api.ErrAbsent))
}

// twice: log a has p, then q of the leaf hash of b's p; log b has q of the leaf hash of a's p, then its own p.
func twiceLines() (p, pb, q, qb int) {
	p, pb = 1, 2
	q = sumLike(1, pathQ, 0, record(pathP, "v1.0.0", pb))
	qb = sumLike(1, pathQ, 0, record(pathP, "v1.0.0", p))
	return p, pb, q, qb
}

func TestJudgeTwice(t *testing.T) { // P20.3: two ids of one tree, whichever client is named first
	p, pb, q, qb := twiceLines()
	w := twins(t)
	for _, line := range []string{addLine("a", pathP, p), addLine("a", pathQ, q), addLine("b", pathQ, qb), addLine("b", pathP, pb), "look c m.example/p v1.0.0 1", "look d m.example/p v1.0.0 1"} {
		does(t, w, line)
	}
	tells(t, w, "judge c d m.example/p v1.0.0", "judge c twice 0 1\n")
	tells(t, w, "judge d c m.example/p v1.0.0", "judge d twice 0 1\n")
}

// judges: what is told of c and d, and of d and c.
func judges(t *testing.T, w *world.World, told string) {
	t.Helper()
	tells(t, w, "judge c d m.example/p v1.0.0", "judge c "+told+"\n")
	tells(t, w, "judge d c m.example/p v1.0.0", "judge d "+told+"\n")
}

func TestJudgeByLinks(t *testing.T) { // P20.3: a head that moved or agreed links two final heads of unlike sizes; without such a fact there is no link
	p, pb, q, qb := twiceLines()
	for _, c := range []struct {
		name  string
		lines []string
		told  string
	}{
		{"none", []string{"look d m.example/p v1.0.0 1"}, "error 180"},
		{"moved", []string{"merge d c 1", "look d m.example/p v1.0.0 1"}, "twice 0 1"},
		{"agreed", []string{"look d m.example/p v1.0.0 1", "merge d c 1"}, "twice 0 1"},
		{"in an earlier session", []string{"look d m.example/p v1.0.0 1", "merge d c 1", "crash d", "open d"}, "twice 0 1"},
		{"grown on", []string{"merge d c 1", "look d m.example/p v1.0.0 1", addLine("b", pathR, 1), "latest d 1"}, "error 180"},
		{"grown on and agreed", []string{"merge d c 1", "look d m.example/p v1.0.0 1", addLine("b", pathR, 1), "latest d 1", "merge d c 1"}, "twice 0 1"},
	} {
		w := twins(t)
		for _, line := range []string{addLine("a", pathP, p), "look c m.example/p v1.0.0 1", addLine("a", pathQ, q), addLine("b", pathQ, qb), addLine("b", pathP, pb)} {
			does(t, w, line)
		}
		for _, line := range c.lines {
			does(t, w, line)
		}
		t.Log(c.name)
		judges(t, w, c.told)
	}
}

// rootTwins: the sums of two records q of unlike leaf hashes that give one root of strength 1 behind a record.
func rootTwins(first string) (q, qb int) {
	for q = 0; ; q++ {
		for qb = range q {
			a, b := record(pathQ, "v1.0.0", q), record(pathQ, "v1.0.0", qb)
			if leaf(1, a) != leaf(1, b) && rootOf(1, first, a) == rootOf(1, first, b) {
				return q, qb
			}
		}
	}
}

func TestTheLastLinkCounts(t *testing.T) { // P20.3: of two facts between the same heads with unlike proofs
	r := record(pathP, "v1.0.0", 1)
	y1, y2 := rootTwins(r)
	q, pb := 0, 2 // another tree of that root, with another record of p in r's place
	for pair := range 1 << 20 {
		q, pb = pair%512, 2+pair/512
		if other := record(pathP, "v1.0.0", pb); leaf(1, other) != leaf(1, r) && rootOf(1, other, record(pathQ, "v1.0.0", q)) == rootOf(1, r, record(pathQ, "v1.0.0", y1)) {
			break
		}
	}
	w := twins(t)
	for _, line := range []string{
		"log e log.example 1 1 2 1 1000000", "log f log.example 1 1 2 1 1000000", addLine("f", pathP, pb), addLine("f", pathQ, q),
		addLine("a", pathP, 1), addLine("b", pathP, 1), addLine("e", pathP, 1), "look c m.example/p v1.0.0 1",
		"latest d 1", addLine("b", pathQ, y1), addLine("e", pathQ, y2), "latest d 1", "turn d f", "look d m.example/p v1.0.0 1",
	} {
		does(t, w, line)
	}
	node := func(left, right string) string {
		l, r := leaf(1, left), leaf(1, right)
		return quoted("\x01" + string(l[:]) + string(r[:]))
	}
	tellsOf := func(y int) {
		t.Helper()
		one, other := node(r, record(pathQ, "v1.0.0", y)), node(record(pathP, "v1.0.0", pb), record(pathQ, "v1.0.0", q))
		tells(t, w, "judge c d m.example/p v1.0.0", "judge c collision "+one+" "+other+"\n")
		tells(t, w, "judge d c m.example/p v1.0.0", "judge d collision "+other+" "+one+"\n")
	}
	tellsOf(y1)
	tells(t, w, "turn d e", "turn d ok\n")
	does(t, w, "merge d c 1")
	tellsOf(y2)
	tells(t, w, "turn d b", "turn d ok\n")
	does(t, w, "merge d c 1")
	tellsOf(y1)
}

func TestLinksOfOtherHeads(t *testing.T) { // P20.3: a fact counts only if it leads from the one final head to the other
	p, pb, q, qb := twiceLines()
	records := []string{record(pathQ, "v1.0.0", qb), record(pathP, "v1.0.0", pb), record(pathR, "v1.0.0", 1)}
	last := 0 // behind it the root is what it was ahead of it, so that the proof to the smaller head leads to the greater one too
	for rootOf(1, append(records, record("m.example/s", "v1.0.0", last))...) != rootOf(1, records...) {
		last++
	}
	w := twins(t)
	for _, line := range []string{
		addLine("a", pathP, p), "look c m.example/p v1.0.0 1", addLine("a", pathQ, q),
		"client e b 100000 9", addLine("b", pathQ, qb), "merge d c 1", addLine("b", pathP, pb), "latest e 1", addLine("b", pathR, 1), "look d m.example/p v1.0.0 1",
	} {
		does(t, w, line)
	}
	judges(t, w, "twice 0 1")
	does(t, w, "merge d e 1") // the last fact leads from e's head, which is none of the two
	judges(t, w, "twice 0 1")
	does(t, w, addLine("b", "m.example/s", last))
	does(t, w, "latest d 1")
	judges(t, w, "error 180")
	does(t, w, "merge d c 1")
	judges(t, w, "twice 0 1")
}

func TestJudgeTellsErrorsOfTranscripts(t *testing.T) { // P20.3: facts that don't go on from one another; of a head that came by no fact
	a, b := record(pathP, "v1.0.0", 1), record(pathQ, "v1.0.0", 1)
	w := played(t, logLine("a", "log.example", 1), logLine("b", "other.example", 1), clientLine("c", "a"), clientLine("d", "a"), clientLine("e", "b"), addLine("a", pathP, 1), addLine("b", pathP, 1), "look c m.example/p v1.0.0 1", "look d m.example/p v1.0.0 1", "look e m.example/p v1.0.0 1")
	tells(t, w, "judge c d m.example/p v1.0.0", refused("judge c", api.ErrNothing))
	tells(t, w, "judge c e m.example/p v1.0.0", refused("judge c", api.ErrTranscript)) // unlike origins
	does(t, w, addLine("a", pathQ, 1))
	does(t, w, "fail c 5 dead") // the new head lasts, but no fact tells of it
	tells(t, w, "look c m.example/q v1.0.0 1", failed("look", "c", api.ErrDead, 2, a))
	tells(t, w, "crash c", "crash c ok 2\n")
	tells(t, w, "judge c d m.example/p v1.0.0", refused("judge c", api.ErrNothing))
	tells(t, w, "look c m.example/q v1.0.0 1", found("c", 1, 2, a, b))
	judgeErrors := refused("judge c", api.ErrTranscript)
	tells(t, w, "judge c d m.example/p v1.0.0", judgeErrors)
	tells(t, w, "judge d c m.example/p v1.0.0", refused("judge d", api.ErrTranscript))
	tells(t, w, "judge c c m.example/p v1.0.0", judgeErrors)
	tells(t, w, "judge d d m.example/p v1.0.0", refused("judge d", api.ErrNothing))
}

func TestJudgeByTheFirstsStrength(t *testing.T) { // P20.3: the facts of both are checked with it
	w := played(t, "log a log.example 1 8 2 1 1000000", "log b log.example 32 8 2 1 1000000", clientLine("c", "a"), clientLine("d", "b"), clientLine("e", "a"), addLine("a", pathP, 1), addLine("b", pathP, 1), "look c m.example/p v1.0.0 1", "look d m.example/p v1.0.0 1")
	tells(t, w, "judge c d m.example/p v1.0.0", refused("judge c", api.ErrTranscript))
	tells(t, w, "judge d c m.example/p v1.0.0", refused("judge d", api.ErrTranscript))
	tells(t, w, "judge e c m.example/p v1.0.0", refused("judge e", api.ErrAbsent))
	tells(t, w, "judge e d m.example/p v1.0.0", refused("judge e", api.ErrTranscript))
	tells(t, w, "judge d e m.example/p v1.0.0", refused("judge d", api.ErrAbsent))
}

func TestJudgeOfThoseWhoAreDown(t *testing.T) { // P20.3: the facts of their earlier sessions stay, once each
	r := record(pathP, "v1.0.0", 1)
	n := sumLike(1, pathP, 2, r)
	w := twins(t)
	for _, line := range []string{addLine("a", pathP, 1), addLine("b", pathP, n), "look c m.example/p v1.0.0 1", "look d m.example/p v1.0.0 1"} {
		does(t, w, line)
	}
	collision := "collision " + quoted("\x00"+r) + " " + quoted("\x00"+record(pathP, "v1.0.0", n))
	same := func(lines ...string) {
		t.Helper()
		for _, line := range lines {
			does(t, w, line)
		}
		tells(t, w, "judge c d m.example/p v1.0.0", "judge c "+collision+"\n")
	}
	same()
	same("open c")
	same("fail c 1 io", "open c")
	tells(t, w, "latest c 1", "latest c down\n")
	same("fail d 1 io", "open d", "fail d 1 io", "open d")
	same("open c", "open d")
	same("look c m.example/p v1.0.0 1", "look d m.example/p v1.0.0 1", "crash c", "crash d")
}
