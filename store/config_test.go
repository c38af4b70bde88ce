package store_test

import (
	"math"
	"strings"
	"testing"

	"ledger/api"
	"ledger/disk"
	"ledger/note"
	"ledger/store"
)

// badConfigs: each has one thing that may not be.
func badConfigs() []store.Config {
	_, verifier, _ := note.Generate("log.example", note.AlgDrill, [32]byte{1})
	var out []store.Config
	for _, h := range []int{0, 9, -1, 32, math.MinInt, math.MaxInt} {
		out = append(out, config(h))
	}
	for _, origin := range []string{"", "a b", "a+b", "a\n", "\xff", "a\u00a0", strings.Repeat("a", 101)} {
		c := config(1)
		c.Origin = origin
		out = append(out, c)
	}
	good := config(1).Signer
	for _, signer := range []string{"", "x", verifier, good + "A", good[:len(good)-1], good + "\n", " " + good, strings.Replace(good, "log.example", "log.other", 1), strings.Repeat("x", 2000)} {
		c := config(1)
		c.Signer = signer
		out = append(out, c)
	}
	return out
}

func goodConfigs() []store.Config {
	var out []store.Config
	for h := 1; h <= 8; h++ {
		out = append(out, config(h))
	}
	for _, k := range []int{0, 1, 31, 32, 33, -5, math.MinInt, math.MaxInt} {
		c := config(2)
		c.Strength = k
		out = append(out, c)
	}
	for _, origin := range []string{"a", "é", "x:1", strings.Repeat("a", 100)} {
		c := config(2)
		c.Origin = origin
		out = append(out, c)
	}
	c := config(2)
	c.Signer = signerOf(note.AlgEd25519, 7)
	out = append(out, c)
	c.Signer, _, _ = note.Generate(strings.Repeat("n", 100), note.AlgEd25519, [32]byte{3})
	return append(out, c)
}

func TestGoodConfigs(t *testing.T) { // P13.1: the edges of each field; a log can be made and opened with each
	for _, c := range goodConfigs() {
		want(t, "CheckConfig", store.CheckConfig(c), api.OK)
		d, s := begun(t, c, recs(0, 5)...)
		isLog(t, "made", s, c, recs(0, 5))
		s, e := store.Open(d, c)
		if e != api.OK {
			t.Fatalf("Open with %+v = %d", c, int(e))
		}
		isLog(t, "opened", s, c, recs(0, 5))
		if got, want := told(d.Files()), told(filesOf(c, recs(0, 5))); got != want {
			t.Errorf("with %+v the disk has\n%s; want\n%s", c, got, want)
		}
	}
}

func TestBadConfigs(t *testing.T) { // P13.1 to P13.3, P0.1: ErrConfig comes ahead of all else, on a dead disk and one with a log too
	full, _ := begun(t, config(1), rec(0))
	dead := made(t, room)
	dead.Crash(nil)
	for _, c := range badConfigs() {
		want(t, "CheckConfig", store.CheckConfig(c), api.ErrConfig)
		for _, d := range []*disk.Disk{made(t, room), full, dead} {
			acts, files := d.Acts(), told(d.Files())
			s, e := store.Create(d, c)
			if s != nil || e != api.ErrConfig {
				t.Errorf("Create with %+v = %v, %d", c, s, int(e))
			}
			if s, e = store.Open(d, c); s != nil || e != api.ErrConfig {
				t.Errorf("Open with %+v = %v, %d", c, s, int(e))
			}
			if d.Acts() != acts || told(d.Files()) != files {
				t.Errorf("with %+v the disk is changed", c)
			}
		}
	}
}
