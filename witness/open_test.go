package witness_test

import (
	"fmt"
	"math"
	"strings"
	"testing"

	"ledger/api"
	"ledger/disk"
	"ledger/note"
	"ledger/witness"
)

func TestNames(t *testing.T) { // P21.1, P0.1: one to thirty small letters and digits
	good := []string{"w", "a", "z", "0", "9", "new", "w1", strings.Repeat("z", 30), "012345678901234567890123456789"}
	for _, name := range good {
		p := newPair(t, config(), room)
		want(t, "Open("+name+")", p.open(name), api.OK)
		p.cosign(trunk().signed(2), 0, nil)
		if names(p.d) != "witness/"+name+"/6c6f672e6578616d706c65" {
			t.Errorf("the witness %s has %s", name, names(p.d))
		}
	}
	for _, name := range []string{"", "W", "Z", "w ", " w", "a/b", "/", ".", "..", "a.b", "a-b", "a_b", "w\n", "\x00", "é", "\xff", "`", "{", ":", "@", strings.Repeat("w", 31), strings.Repeat("w", 300)} {
		p := newPair(t, config(), room)
		want(t, fmt.Sprintf("Open(%q)", name), p.open(name), api.ErrFile)
	}
}

// badConfigs: each has one thing that may not be.
func badConfigs() []witness.Config {
	var out []witness.Config
	change := func(by func(c *witness.Config)) {
		c := configOf(origin, "log.other", "é")
		by(&c)
		out = append(out, c)
	}
	for _, s := range []string{"", "x", verifierOf(witnessKey), signerOf(witnessKey) + "A", signerOf(witnessKey)[1:], signerOf(witnessKey) + "\n", strings.Replace(signerOf(witnessKey), "key90", "key91", 1), strings.Repeat("x", 2000)} {
		change(func(c *witness.Config) { c.Signer = s })
	}
	for i := range 3 {
		for _, o := range []string{"", "a b", "a+b", "a\n", "\xff", "a\u00a0", strings.Repeat("a", 101)} {
			change(func(c *witness.Config) { c.Logs[i].Origin = o })
		}
		for _, v := range []string{"", "x", signerOf(logKey), verifierOf(logKey) + "A", verifierOf(logKey)[1:], strings.Replace(verifierOf(logKey), "key0", "key1", 1)} {
			change(func(c *witness.Config) { c.Logs[i].Verifier = v })
		}
		change(func(c *witness.Config) { c.Logs[i].Origin = c.Logs[(i+1)%3].Origin })
		change(func(c *witness.Config) { c.Logs[i] = c.Logs[(i+1)%3] })
	}
	many := configOf()
	for i := range 17 {
		many.Logs = append(many.Logs, witness.Log{Origin: fmt.Sprint("log", i), Verifier: verifierOf(logKey)})
	}
	return append(out, many)
}

func TestBadConfigs(t *testing.T) { // P21.1, P0.1: ErrFile ahead of ErrConfig, that ahead of ErrDead; nothing is changed
	dead := made(t)
	dead.Crash(nil)
	broken := made(t, disk.File{Name: file}, disk.File{Name: file + ".new"})
	for i, c := range badConfigs() {
		for _, d := range []*disk.Disk{made(t), dead, broken} {
			acts, files := d.Acts(), told(d.Files())
			if w, e := witness.Open(d, "w", c); w != nil || e != api.ErrConfig {
				t.Errorf("config %d: Open = %v, %d", i, w != nil, int(e))
			}
			if w, e := witness.Open(d, "W", c); w != nil || e != api.ErrFile {
				t.Errorf("config %d: Open of no name = %v, %d", i, w != nil, int(e))
			}
			if d.Acts() != acts || told(d.Files()) != files {
				t.Errorf("config %d: the disk is changed", i)
			}
		}
	}
	for _, d := range []*disk.Disk{dead, broken} {
		if w, e := witness.Open(d, "W", config()); w != nil || e != api.ErrFile {
			t.Errorf("Open of no name = %v, %d", w != nil, int(e))
		}
	}
	for _, c := range []witness.Config{config(), configOf()} {
		if w, e := witness.Open(dead, "w", c); w != nil || e != api.ErrDead {
			t.Errorf("Open of a dead disk with %d logs = %v, %d", len(c.Logs), w != nil, int(e))
		}
	}
}

func TestDeadComesAheadOfBroken(t *testing.T) { // P21.1, P0.1
	d := made(t, disk.File{Name: file, Data: []byte("x")})
	want := []api.Errno{api.ErrBroken, api.ErrDead}
	for i, e := range want {
		if w, got := witness.Open(d, "w", config()); w != nil || got != e {
			t.Errorf("Open %d = %v, %d; want %d", i, w != nil, int(got), int(e))
		}
		d.Crash(nil)
	}
}

func TestGoodConfigs(t *testing.T) { // P21.1: none and 16 logs, the edges of an origin, one key for several logs, all algorithms, any strength
	many := configOf()
	for i := range 16 {
		many.Logs = append(many.Logs, witness.Log{Origin: fmt.Sprint("log", i), Verifier: verifierOf(logKey)})
	}
	own := config()
	own.Signer = signerOf(logKey)
	good := []witness.Config{configOf(), many, own, configOf("a", "é", "x:1", strings.Repeat("a", 100), "../..", "/", "a.new")}
	for _, k := range []int{0, 1, 31, 32, 33, -5, math.MinInt, math.MaxInt} {
		c := config()
		c.Strength = k
		good = append(good, c)
	}
	ed := config()
	ed.Signer, _ = keys(note.AlgEd25519, witnessKey)
	good = append(good, ed)
	for i, c := range good {
		p := newPair(t, c, room)
		if e := p.open("w"); e != api.OK {
			t.Fatalf("config %d: Open = %d", i, int(e))
		}
		for _, l := range c.Logs {
			seed := byte(logKey)
			for verifierOf(seed) != l.Verifier {
				seed++
			}
			b := newBranch(c.Strength, l.Origin, seed, grown, 0)
			for _, n := range [][2]int64{{0, 0}, {0, 1}, {1, 6}, {6, 6}, {6, 20}} {
				if e := p.cosign(b.signed(n[1]), n[0], b.path(n[0], n[1])); e != api.OK {
					t.Fatalf("config %d, %q: Cosign from %d to %d = %d", i, l.Origin, n[0], n[1], int(e))
				}
			}
		}
		if len(p.d.Files()) != len(c.Logs) {
			t.Errorf("config %d: the disk has %s", i, names(p.d))
		}
		if e := p.open("w"); e != api.OK {
			t.Errorf("config %d: Open anew = %d", i, int(e))
		}
	}
}

func TestBrokenFiles(t *testing.T) { // P21.1: just FormatHead of a head of that origin with one record or more
	right := textOf(trunk().head(3))
	lines := strings.SplitAfter(right, "\n")
	for _, x := range []struct {
		data string
		e    api.Errno
	}{
		{right, api.OK}, {textOf(note.Head{Origin: origin, Size: 1}), api.OK}, {textOf(note.Head{Origin: origin, Size: 1 << 48}), api.OK},
		{"", api.ErrBroken}, {"x", api.ErrBroken}, {right + "\n", api.ErrBroken}, {right + right, api.ErrBroken}, {right[:len(right)-1], api.ErrBroken}, {"\n" + right, api.ErrBroken}, {right + "x\n", api.ErrBroken}, {right + "\x00", api.ErrBroken},
		{textOf(trunk().head(0)), api.ErrBroken}, {textOf(note.Head{Origin: origin}), api.ErrBroken}, {textOf(note.Head{Origin: "log.exampl", Size: 3}), api.ErrBroken}, {textOf(note.Head{Origin: "Log.example", Size: 3}), api.ErrBroken}, {textOf(note.Head{Origin: "log.other", Size: 3}), api.ErrBroken},
		{lines[0] + "03\n" + lines[2], api.ErrBroken}, {lines[0] + "-3\n" + lines[2], api.ErrBroken}, {lines[0] + "281474976710657\n" + lines[2], api.ErrBroken}, {lines[0] + lines[1] + lines[2][:40] + "\n", api.ErrBroken}, {string(trunk().signed(3)), api.ErrBroken}, {strings.Repeat(right, 1000), api.ErrBroken},
	} {
		for _, c := range []witness.Config{config(), configOf("a", origin, "log.other"), configOf("log.other", "b")} {
			p := newPair(t, c, room, disk.File{Name: file, Data: []byte(x.data)}, disk.File{Name: file + ".new"}, disk.File{Name: "witness/w/" + strings.Repeat("0", 9)})
			e := p.open("w")
			if known := c.Logs[0].Origin == origin || c.Logs[1].Origin == origin; known && e != x.e || !known && e != api.OK {
				t.Errorf("Open with %.100q = %d", x.data, int(e))
			}
			if e == api.ErrBroken && p.d.Acts() != 0 {
				t.Errorf("%d acts where %.100q is broken", p.d.Acts(), x.data)
			}
			if got, _ := p.d.Read(file); string(got) != x.data {
				t.Errorf("the file was %.100q, and is %.100q", x.data, got)
			}
		}
	}
	other := "witness/w/6c6f672e6f74686572"
	for _, broken := range []string{file, other} {
		p := newPair(t, configOf(origin, "log.other"), room, disk.File{Name: file, Data: []byte(right)}, disk.File{Name: other, Data: []byte(textOf(note.Head{Origin: "log.other", Size: 3}))})
		want(t, "Open", p.open("w"), api.OK)
		for _, d := range []*disk.Disk{p.d, p.twin} {
			d.Write(broken, 0, []byte("x"))
		}
		want(t, "Open with one of two broken", p.open("w"), api.ErrBroken)
	}
}

// leftovers: files that Open takes away, and files that only look like them.
func leftovers() []disk.File {
	var out []disk.File
	for _, name := range []string{
		file + ".new", "witness/w/.new", "witness/w/x.new", "witness/w/10.new", "witness/w/2.new", "witness/w/a/b.new", "witness/w/a.new.new", "witness/w/~.new", "witness/w/Z.new",
		"witness/w/new", "witness/w/x.newer", "witness/w/x.NEW", "witness/w/xnew", "witness/w/x.new/y", "witness/w/a.new.old", "witness/w/6c6f67", "witness/w.new", "witness/w1/x.new", "witness/ww/" + file[10:] + ".new", "witness/x.new", "witness/W/x.new", "Witness/w/x.new", "awitness/w/x.new", "a/witness/w/x.new", "x.new", "head", "head.new", "cache/w/x.new", "tile/x.new", "witness",
	} {
		out = append(out, disk.File{Name: name, Data: []byte(name)})
	}
	return out
}

func TestOpenTakesNewFilesAway(t *testing.T) { // P21.1: each of them, in the order of the names' bytes, and no other; SyncNames behind it
	p := newPair(t, config(), room, leftovers()...)
	want(t, "Open", p.open("w"), api.OK)
	if p.d.Acts() != 10 || p.d.Pending() != 0 || len(p.d.Files()) != len(leftovers())-9 {
		t.Errorf("%d acts, %d pending, %d files", p.d.Acts(), p.d.Pending(), len(p.d.Files()))
	}
	for _, f := range p.d.Files() {
		if string(f.Data) != f.Name {
			t.Errorf("%s is changed", f.Name)
		}
	}
	want(t, "Open again", p.open("w"), api.OK)
	if p.d.Acts() != 11 {
		t.Errorf("%d acts", p.d.Acts())
	}
}

func TestOpenFails(t *testing.T) { // P21.1: at each of its acts, by every fault; what was done ahead of it stays done
	right := disk.File{Name: file, Data: []byte(textOf(trunk().head(3)))}
	for _, files := range [][]disk.File{nil, {right}, leftovers(), append(leftovers(), right)} {
		acts := 1
		if len(files) > 1 {
			acts = 10
		}
		for _, fault := range faults() {
			for n := 1; n <= acts+1; n++ {
				p := newPair(t, config(), room, files...)
				p.fail(n, fault)
				e := p.open("w")
				if n <= acts && (e != fault || p.d.Acts() != n) || n > acts && (e != api.OK || p.d.Acts() != acts) {
					t.Fatalf("Open with act %d of %d failing = %d, %d acts", n, acts, int(e), p.d.Acts())
				}
				if fault != api.ErrDead && n <= acts {
					want(t, "Open again", p.open("w"), api.OK)
				}
				p.agreeBehindCrashes("Open")
			}
		}
	}
}

func TestOpenWithOtherLogs(t *testing.T) { // P21.1, P21.2: a log that is not known now is as it was when it is known again
	d := made(t)
	both, one, none := configOf(origin, "log.other"), config(), configOf()
	a, b := trunk(), newBranch(strict, "log.other", logKey+1, grown, 0)
	w := opened(t, d, both)
	cosigned(t, w, a, 0, 4)
	cosigned(t, w, b, 0, 7)
	files := told(d.Files())
	for _, c := range []witness.Config{one, none, both} {
		w = opened(t, d, c)
		for _, l := range both.Logs {
			h, ok := w.Head(l.Origin)
			if known := l.Origin == origin && len(c.Logs) > 0 || len(c.Logs) == 2; ok != known || !known && h != (note.Head{}) {
				t.Errorf("with %d logs: Head(%s) = %+v, %v", len(c.Logs), l.Origin, h, ok)
			}
		}
		if told(d.Files()) != files {
			t.Errorf("with %d logs: the disk has\n%s", len(c.Logs), told(d.Files()))
		}
		if len(c.Logs) < 2 {
			refuses(t, "a log that is not known now", w, b.signed(7), 7, nil, api.ErrOrigin)
		}
	}
	has(t, "known again", w, a.head(4))
	has(t, "known again", w, b.head(7))
}

func TestOpenBelievesItsFile(t *testing.T) { // P21.1, P21.2: whatever size and root it tells; of any strength
	for _, k := range []int{32, 1} {
		for _, h := range []note.Head{{Origin: origin, Size: 1}, {Origin: origin, Size: 1 << 48, Root: api.Hash{1, 31: 255}}, trunk().head(20)} {
			c := config()
			c.Strength = k
			p := newPair(t, c, room, disk.File{Name: file, Data: []byte(textOf(h))})
			want(t, "Open", p.open("w"), api.OK)
			has(t, "behind it", p.w, h)
			want(t, "Cosign of that head", p.cosign(signedBy(h, logKey), h.Size, nil), api.OK)
			want(t, "Cosign of another root", p.cosign(signedBy(note.Head{Origin: origin, Size: h.Size, Root: api.Hash{9}}, logKey), h.Size, nil), api.ErrProof)
		}
	}
}

func TestHeadOfUnknown(t *testing.T) { // P21.2, P0.1: names are compared byte by byte
	_, w := begun(t, 3)
	for _, o := range []string{"", "x", "Log.example", "log.example ", "log.exampl", "log.example\n", "\xff", file, strings.Repeat("x", 1<<20)} {
		if h, ok := w.Head(o); ok || h != (note.Head{}) {
			t.Errorf("Head(%.40q) = %+v, %v", o, h, ok)
		}
	}
	has(t, "the known one", w, trunk().head(3))
}
