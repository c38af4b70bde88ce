package audit_test

import (
	"math"
	"strings"
	"testing"

	"ledger/api"
	"ledger/audit"
	"ledger/cache"
	"ledger/client"
	"ledger/disk"
	"ledger/note"
)

// filesFor: an empty cache.
func filesFor(t *testing.T) *cache.Cache {
	t.Helper()
	d, e := disk.New(1 << 24)
	if e != api.OK {
		t.Fatal(e)
	}
	f, e := cache.Open(d, "a", 100)
	if e != api.OK {
		t.Fatal(e)
	}
	return f
}

func TestConfigs(t *testing.T) { // P0.1: ErrConfig and nil, ahead of all else, just as client.New; at the edges
	base := configOf(0, 4)
	with := func(change func(*client.Config)) client.Config {
		c := base
		change(&c)
		return c
	}
	signer, _ := keysOf(origin, 1)
	_, named := keysOf("another.name", 1)
	_, ed, _ := note.Generate(origin, note.AlgEd25519, [32]byte{5})
	l := newLog(0, 4, recs(0, 3)...)
	for _, x := range []struct {
		what string
		c    client.Config
		ok   bool
	}{
		{"as it should be", base, true},
		{"another key's name", with(func(c *client.Config) { c.Verifier = named }), true},
		{"Ed25519", with(func(c *client.Config) { c.Verifier = ed }), true},
		{"no origin", with(func(c *client.Config) { c.Origin = "" }), false},
		{"an origin with a blank", with(func(c *client.Config) { c.Origin = "a b" }), false},
		{"an origin with a plus", with(func(c *client.Config) { c.Origin = "a+b" }), false},
		{"an origin with a line's end", with(func(c *client.Config) { c.Origin = "a\n" }), false},
		{"an origin of 100 bytes", with(func(c *client.Config) { c.Origin = strings.Repeat("a", 100) }), true},
		{"an origin of 101 bytes", with(func(c *client.Config) { c.Origin = strings.Repeat("a", 101) }), false},
		{"no verifier", with(func(c *client.Config) { c.Verifier = "" }), false},
		{"a signer", with(func(c *client.Config) { c.Verifier = signer }), false},
		{"a verifier and more", with(func(c *client.Config) { c.Verifier += "A" }), false},
		{"a verifier of another hash", with(func(c *client.Config) { c.Verifier = "x" + c.Verifier }), false},
		{"height 0", with(func(c *client.Config) { c.Height = 0 }), false},
		{"height 1", with(func(c *client.Config) { c.Height = 1 }), true},
		{"height 8", with(func(c *client.Config) { c.Height = 8 }), true},
		{"height 9", with(func(c *client.Config) { c.Height = 9 }), false},
		{"height -1", with(func(c *client.Config) { c.Height = -1 }), false},
		{"the least height", with(func(c *client.Config) { c.Height = math.MinInt }), false},
		{"the greatest height", with(func(c *client.Config) { c.Height = math.MaxInt }), false},
		{"limit 0", with(func(c *client.Config) { c.Limit = 0 }), false},
		{"limit 1", with(func(c *client.Config) { c.Limit = 1 }), true},
		{"limit 1048576", with(func(c *client.Config) { c.Limit = 1048576 }), true},
		{"limit 1048577", with(func(c *client.Config) { c.Limit = 1048577 }), false},
		{"limit -1", with(func(c *client.Config) { c.Limit = -1 }), false},
		{"the least limit", with(func(c *client.Config) { c.Limit = math.MinInt }), false},
		{"the greatest limit", with(func(c *client.Config) { c.Limit = math.MaxInt }), false},
		{"strength -5", with(func(c *client.Config) { c.Strength = -5 }), true},
		{"the least strength", with(func(c *client.Config) { c.Strength = math.MinInt }), true},
		{"the greatest strength", with(func(c *client.Config) { c.Strength = math.MaxInt }), true},
		{"nothing", client.Config{}, false},
	} {
		a, e := audit.New(x.c)
		_, f := client.New(x.c, filesFor(t))
		if e != f || (e == api.OK) != x.ok || (a != nil) != x.ok || !x.ok && e != api.ErrConfig {
			t.Errorf("%s: New = %v, %d; client.New's %d", x.what, a != nil, int(e), int(f))
		}
		if x.ok && a.Head() != (note.Head{Origin: x.c.Origin, Root: hashOf(x.c.Strength)}) {
			t.Errorf("%s: Head = %+v", x.what, a.Head())
		}
		if b, e := audit.Load(x.c, []byte("0\n")); (e == api.OK) != x.ok || (b != nil) != x.ok || !x.ok && e != api.ErrConfig {
			t.Errorf("%s: Load = %v, %d", x.what, b != nil, int(e))
		}
		if b, e := audit.Load(x.c, []byte("x")); b != nil || (e == api.ErrSaved) != x.ok || (e == api.ErrConfig) == x.ok {
			t.Errorf("%s: Load of no state = %v, %d", x.what, b != nil, int(e))
		}
		if b, e := audit.Load(x.c, []byte(l.saved(3))); !x.ok && (b != nil || e != api.ErrConfig) {
			t.Errorf("%s: Load of a state = %v, %d", x.what, b != nil, int(e))
		}
	}
}

func TestStrengths(t *testing.T) { // P22.1: 1 to 31 are weak; every other number is the whole hash
	for _, k := range []int{1, 2, 16, 31, 32, 0, 33, -1, math.MinInt, math.MaxInt} {
		l := newLog(k, 2, recs(0, 6)...)
		a := at(t, configOf(k, 2), l, 3)
		readTo(a, l, 6)
		ended(t, "of a strength", a, api.OK)
		hasRead(t, "of a strength", a, l, 6)
		want(t, "Holds", a.Holds(l.factOf(4, 6)), api.OK)
		same := loaded(t, configOf(k, 2), l.saved(6))
		hasRead(t, "Load", same, l, 6)
		for _, other := range []int{1, 2, 16, 31, 0} {
			weak := func(k int) bool { return k >= 1 && k <= 31 }
			if other == k || !weak(other) && !weak(k) {
				continue
			}
			if b, e := audit.Load(configOf(other, 2), []byte(l.saved(6))); b != nil || e != api.ErrSaved {
				t.Errorf("Load of strength %d under %d = %v, %d", k, other, b != nil, int(e))
			}
		}
	}
}
