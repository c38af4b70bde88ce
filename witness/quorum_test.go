package witness_test

import (
	"fmt"
	"math"
	"math/rand"
	"slices"
	"testing"

	"ledger/api"
	"ledger/note"
	"ledger/witness"
)

func TestQuorumRefuses(t *testing.T) { // P21.6, P0.1: ErrArg, then note.Open's in its order, then ErrQuorum
	a, b, c := verifierOf(1), verifierOf(2), verifierOf(3)
	m := signText("text\n", 1, 2)
	many := make([]string, 17)
	for i := range many {
		many[i] = verifierOf(byte(i))
	}
	for i, x := range []struct {
		message   []byte
		verifiers []string
		need      int
		e         api.Errno
	}{
		{m, []string{a, b}, 2, api.OK}, {m, []string{b, a}, 1, api.OK}, {m, []string{a}, 1, api.OK}, {m, []string{c, a}, 1, api.OK}, {m, many[:16], 2, api.OK},
		{m, nil, 0, api.ErrArg}, {m, nil, 1, api.ErrArg}, {m, []string{a, b}, 0, api.ErrArg}, {m, []string{a, b}, -1, api.ErrArg}, {m, []string{a, b}, 3, api.ErrArg}, {m, []string{a, b}, math.MinInt, api.ErrArg}, {m, []string{a, b}, math.MaxInt, api.ErrArg}, {nil, []string{"x"}, 2, api.ErrArg}, {make([]byte, 65537), many, 18, api.ErrArg},
		{make([]byte, 65537), []string{"x"}, 1, api.ErrLong}, {m, many, 1, api.ErrLong}, {m, many, 17, api.ErrLong},
		{m, []string{a, "x"}, 2, api.ErrKeyText}, {nil, []string{a, ""}, 1, api.ErrKeyText}, {m, []string{a, signerOf(2)}, 1, api.ErrKeyText},
		{m, []string{a, a}, 1, api.ErrTwice}, {m, []string{a, b, a}, 3, api.ErrTwice}, {nil, []string{a, a}, 1, api.ErrTwice},
		{nil, []string{a}, 1, api.ErrNote}, {[]byte("text\n"), []string{a}, 1, api.ErrNote}, {m[:len(m)-1], []string{a, b}, 2, api.ErrNote},
		{spoilt(m, 0), []string{a, b}, 1, api.ErrSignature}, {spoilt(m, 1), []string{a, b}, 1, api.ErrSignature}, {spoilt(m, 1), []string{a, c}, 1, api.OK}, {spoilt(m, 0), []string{a, c}, 2, api.ErrSignature},
		{m, []string{c}, 1, api.ErrUnsigned}, {m, []string{c, verifierOf(4)}, 2, api.ErrUnsigned},
		{m, []string{a, c}, 2, api.ErrQuorum}, {m, []string{a, b, c}, 3, api.ErrQuorum}, {m, many[:16], 3, api.ErrQuorum},
	} {
		want(t, fmt.Sprintf("case %d: Quorum of %d verifiers, need %d", i, len(x.verifiers), x.need), witness.Quorum(x.message, x.verifiers, x.need), x.e)
	}
}

func TestQuorumCountsKeys(t *testing.T) { // P21.6: once, however often its line stands there; a false line behind a right one is left out
	text, sigs, _ := note.Split(signText("text\n", 1, 2, 3))
	wrong := note.Signature{Name: sigs[0].Name, Hash: sigs[0].Hash, Bytes: []byte{7}}
	all := []string{verifierOf(1), verifierOf(2), verifierOf(3)}
	for i, x := range []struct {
		sigs []note.Signature
		e    [3]api.Errno // with need 1, 2, 3
	}{
		{sigs, [3]api.Errno{}},
		{[]note.Signature{sigs[0], sigs[0], sigs[0]}, [3]api.Errno{0, api.ErrQuorum, api.ErrQuorum}},
		{[]note.Signature{sigs[1], sigs[0], sigs[1]}, [3]api.Errno{0, 0, api.ErrQuorum}},
		{[]note.Signature{sigs[0], wrong, sigs[2]}, [3]api.Errno{0, 0, api.ErrQuorum}},
		{[]note.Signature{wrong, sigs[0], sigs[1], sigs[2]}, [3]api.Errno{api.ErrSignature, api.ErrSignature, api.ErrSignature}},
	} {
		for need, e := range x.e {
			want(t, fmt.Sprintf("case %d, need %d", i, need+1), witness.Quorum(formatted(text, x.sigs), all, need+1), e)
		}
	}
}

func TestAnyQuorums(t *testing.T) { // P21.6: lines and verifiers in any order, against a count of them
	r := rand.New(rand.NewSource(21))
	text, sigs, _ := note.Split(signText("text\n", 0, 1, 2, 3, 4, 5))
	seen := map[api.Errno]int{}
	for range 3000 {
		var lines []note.Signature
		right := map[int]bool{} // by the first line of a key
		for range 1 + r.Intn(8) {
			i := r.Intn(len(sigs))
			s, good := sigs[i], r.Intn(8) > 0
			if !good {
				s.Bytes = []byte{1}
			}
			if _, there := right[i]; !there {
				right[i] = good
			}
			lines = append(lines, s)
		}
		var verifiers []string
		known, falses := 0, 0
		for _, i := range r.Perm(8)[:r.Intn(6)] {
			verifiers = append(verifiers, verifierOf(byte(i)))
			if good, there := right[i]; there && good {
				known++
			} else if there {
				falses++
			}
		}
		need := r.Intn(len(verifiers) + 2)
		e := api.OK
		switch {
		case need < 1 || need > len(verifiers):
			e = api.ErrArg
		case falses > 0:
			e = api.ErrSignature
		case known == 0:
			e = api.ErrUnsigned
		case known < need:
			e = api.ErrQuorum
		}
		seen[e]++
		want(t, "Quorum", witness.Quorum(formatted(text, lines), slices.Clone(verifiers), need), e)
	}
	for _, e := range []api.Errno{api.OK, api.ErrArg, api.ErrSignature, api.ErrUnsigned, api.ErrQuorum} {
		if seen[e] < 100 {
			t.Errorf("%d was met %d times", int(e), seen[e])
		}
	}
}
