package world_test

import (
	"testing"

	"ledger/api"
)

func TestExamplesOneToSeven(t *testing.T) { // P20.3
	r := []string{record("a.example/m", "v1.0.0", 7), record("a.example/m", "v1.1.0", 8), record("b.example/k", "v0.1.0", 1)}
	plays(t,
		"log a log.example 32 1 2 5 1000000", "log a ok\n",
		"log a log.example 32 1 2 5 1000000", "log a taken\n",
		"log b log.example 32 9 2 5 1000000", "log b error 130\n",
		"log b log.example 32 1 3 5 1000000", "log b error 73\n",
		"log b log.example 32 1 2 5 10", "log b error 123\n",

		"client c zz 100000 9", "client c nobody\n",
		"client c a 100000 9", "client c ok\n",
		"client d a 100000 0", "client d ok\n",
		"merge c d 1", "merge c none\n",
		"client e a 0 0", "client e error 130\n",

		"look c a.example/m v1.0.0 1", failed("look", "c", 171, 1),

		"add a a.example/m v1.0.0 7 a.example/m v1.1.0 8 a.example/m v1.0.0 9", "add a ok 0 1 0\n",
		"add a a.example/m v2.0.0 7", "add a error 111\n",

		"look c a.example/m v1.1.0 1", found("c", 1, 3, r[:2]...),
		"look c a.example/m v1.0.0 1", found("c", 0, 1, r[:2]...),
		"look d a.example/m v1.0.0 1", found("d", 0, 3, r[:2]...),
		"look d a.example/m v1.0.0 1", found("d", 0, 3, r[:2]...),

		"add a b.example/k v0.1.0 1", "add a ok 2\n",
		"latest c 1", latest("c", 2, r...),
		"judge c d a.example/m v1.0.0", "judge c error 181\n",
		"judge c d a.example/m v1.1.0", "judge c error 121\n",

		"fail a 1 dead", "fail a ok\n",
		"add a m.example/b v1.0.0 1", "add a error 125\n",
		"open a", "open a error 125\n",
		"head a", "head a down\n",
		"look c a.example/m v1.0.0 1", failed("look", "c", 190, 1, r...),
		"crash a 9 9", "crash a ok 3\n",
	)
}

func TestExamplesEightAndNine(t *testing.T) { // P20.3
	r := record("m.example/a", "v1.0.0", 1)
	plays(t,
		"log a log.example 32 8 2 1 1000000", "log a ok\n",
		"client c a 100000 9", "client c ok\n",
		"add a m.example/a v1.0.0 1", "add a ok 0\n",
		"look c m.example/a v1.0.0 1 x", failed("look", "c", 190, 1),
		"look c m.example/a v1.0.0 1 l4 l5", failed("look", "c", 190, 1),
		"look c m.example/a v1.0.0 2 l4 l4 b3 l8", found("c", 0, 2, r),
		"spoil c 0 9", "spoil c ok\n",
		"look c m.example/a v1.0.0 3 2*x", found("c", 0, 4, r),
	)
}

func TestExampleTen(t *testing.T) { // P20.3
	a, b := record("m.example/a", "v1.0.0", 1), record("m.example/a", "v1.0.0", 2)
	fork := "fork c " + quoted(signed("log.example", 1, a)) + " " + quoted(signed("log.example", 1, b)) + " " + inHex(rootOf(32, b)) + " 0\n"
	plays(t,
		logLine("a", "log.example", 1), "log a ok\n",
		logLine("b", "log.example", 1), "log b ok\n",
		"add a m.example/a v1.0.0 1", "add a ok 0\n",
		"add b m.example/a v1.0.0 2", "add b ok 0\n",
		clientLine("c", "a"), "client c ok\n",
		clientLine("d", "b"), "client d ok\n",
		"look c m.example/a v1.0.0 1", found("c", 0, 2, a),
		"look d m.example/a v1.0.0 1", found("d", 0, 2, b),
		"merge c d 1", failed("merge", "c", api.ErrFork, 0, a)+fork,
		"turn c b", "turn c ok\n",
		"latest c 1", failed("latest", "c", api.ErrFork, 1, a)+fork,
		"judge c d m.example/a v1.0.0", "judge c error 180\n",
	)
}
