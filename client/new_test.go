package client_test

import (
	"strings"
	"testing"

	"ledger/api"
	"ledger/client"
	"ledger/note"
	"ledger/tlog"
)

func TestNewRefusesConfigs(t *testing.T) { // P17.1, P0.1: ahead of whatever the files have as a head
	good := configOf(0, 8)
	signer, verifier := keysOf(origin, 1)
	_, long := keysOf(strings.Repeat("n", 100), 1)
	origins := map[string]bool{"": false, "a b": false, "a+b": false, "a\n": false, "\x7f": false, "\xff": false, "\u00a0": false, strings.Repeat("a", 101): false, strings.Repeat("a", 100): true, "é": true, "-": true}
	verifiers := map[string]bool{"": false, signer: false, verifier + "x": false, verifier[:len(verifier)-1]: false, "x" + verifier: false, strings.Repeat("a", 5000): false, long: true}
	heights := map[int]bool{-1 << 63: false, -1: false, 0: false, 1: true, 2: true, 7: true, 8: true, 9: false, 64: false, 1<<63 - 1: false}
	limits := map[int]bool{-1 << 63: false, -1: false, 0: false, 1: true, 1048576: true, 1048577: false, 1<<63 - 1: false}
	strengths := []int{-1 << 63, -1, 0, 1, 31, 32, 33, 1<<63 - 1}
	check := func(c client.Config, right bool) {
		t.Helper()
		e := api.ErrConfig
		if right {
			e = api.OK
		}
		s, got := client.New(c, opened(t, loaded(t), 1))
		if got != e || (s != nil) != right {
			t.Errorf("New(%.200q) = %v, %d; want %d", tell(c), s != nil, int(got), int(e))
		}
		if right {
			refused(t, "New", s, api.ErrState)
			e = api.ErrNote
		}
		s, got = client.New(c, opened(t, loaded(t, headFile("x")), 1))
		if got != e || s != nil {
			t.Errorf("New(%.200q) over a head that is none = %v, %d; want %d", tell(c), s != nil, int(got), int(e))
		}
		if s, got := client.New(c, nil); s != nil || got != api.ErrConfig {
			t.Errorf("New(%.200q) without files = %v, %d", tell(c), s != nil, int(got))
		}
	}
	for x, right := range origins {
		c := good
		c.Origin = x
		check(c, right)
	}
	for x, right := range verifiers {
		c := good
		c.Verifier = x
		check(c, right)
	}
	for x, right := range heights {
		c := good
		c.Height = x
		check(c, right)
	}
	for x, right := range limits {
		c := good
		c.Limit = x
		check(c, right)
	}
	for _, x := range strengths {
		c := good
		c.Strength = x
		check(c, true)
	}
	check(client.Config{}, false)
}

// headsToRead: messages, and what reading them as a signed head answers, with the strength k.
func headsToRead(k int) []struct {
	what, message string
	e             api.Errno
} {
	b := newBook(k, 2, recs(0, 5)...)
	stranger, _ := keysOf(origin, 2)
	namesake, _ := keysOf("other.name", 1)
	empty := tlog.EmptyHash(k)
	turned := empty
	turned[31] ^= 1
	root := b.root(3)
	text := func(h note.Head) string { s, _ := note.FormatHead(h); return s }
	spoilt := strings.Replace(b.note(3), "\n3\n", "\n4\n", 1)
	return []struct {
		what, message string
		e             api.Errno
	}{
		{"right", b.note(3), api.OK},
		{"of no records", signHead(note.Head{Origin: origin, Root: empty}, b.signer), api.OK},
		{"the greatest", signHead(note.Head{Origin: origin, Size: 1 << 48, Root: root}, b.signer), api.OK},
		{"signed by others too", signHead(b.head(3), stranger, b.signer, namesake), api.OK},
		{"with a signature that does not count", b.note(3) + signatureOf(b.note(4)), api.OK},
		{"a byte behind it", b.note(3) + "x", api.ErrNote},
		{"nonsense", "x", api.ErrNote},
		{"a head without a signature", text(b.head(3)), api.ErrNote},
		{"cut", b.note(3)[:20], api.ErrNote},
		{"65536 bytes of nonsense", strings.Repeat("x", 65536), api.ErrNote},
		{"65537 bytes of nonsense", strings.Repeat("x", 65537), api.ErrLong},
		{"a false signature", spoilt, api.ErrSignature},
		{"a false signature of no head", strings.Replace(signText("ab\n", b.signer), "ab", "ac", 1), api.ErrSignature},
		{"a false signature ahead of a right one", text(b.head(4)) + "\n" + signatureOf(b.note(3)) + signatureOf(b.note(4)), api.ErrSignature},
		{"another key", b.signedBy(stranger, origin).note(3), api.ErrUnsigned},
		{"another name", b.signedBy(namesake, origin).note(3), api.ErrUnsigned},
		{"another key over no head", signText("x\n", stranger), api.ErrUnsigned},
		{"no head", signText("x\n", b.signer), api.ErrHead},
		{"no head of another origin", signText("other\n03\n", b.signer), api.ErrHead},
		{"a line more", signText(text(b.head(3))+"x\n", b.signer), api.ErrHead},
		{"a zero ahead of the size", signText(strings.Replace(text(b.head(3)), "\n3\n", "\n03\n", 1), b.signer), api.ErrHead},
		{"a size above all", signText(strings.Replace(text(b.head(3)), "\n3\n", "\n281474976710657\n", 1), b.signer), api.ErrHead},
		{"another origin", b.signedBy(b.signer, "other").note(3), api.ErrOrigin},
		{"an origin's beginning", b.signedBy(b.signer, origin[:5]).note(3), api.ErrOrigin},
		{"an origin in capitals", b.signedBy(b.signer, strings.ToUpper(origin)).note(3), api.ErrOrigin},
		{"another origin, no records and a root", signHead(note.Head{Origin: "other", Root: root}, b.signer), api.ErrOrigin},
		{"no records and a root", signHead(note.Head{Origin: origin, Root: root}, b.signer), api.ErrHead},
		{"no records and no root", signHead(note.Head{Origin: origin}, b.signer), api.ErrHead},
		{"no records and a root that is nearly right", signHead(note.Head{Origin: origin, Root: turned}, b.signer), api.ErrHead},
		{"no records and the root of another strength", signHead(note.Head{Origin: origin, Root: tlog.EmptyHash(k + 5)}, b.signer), api.ErrHead},
	}
}

// signatureOf: the signature's line.
func signatureOf(message string) string { return message[strings.Index(message, "\u2014"):] }

func TestNewReadsTheHead(t *testing.T) { // P17.1, P17.2, P0.1: with the first error of reading it, or with that head
	for _, k := range []int{2, 20} {
		c := configOf(k, 2)
		for _, x := range headsToRead(k) {
			d := loaded(t, headFile(x.message))
			f := opened(t, d, 3)
			acts := d.Acts()
			s, e := client.New(c, f)
			if e != x.e || (s != nil) != (e == api.OK) || d.Acts() != acts {
				t.Errorf("strength %d, %s: New = %v, %d; want %d", k, x.what, s != nil, int(e), int(x.e))
			}
			if s == nil {
				continue
			}
			n, _ := note.Open([]byte(x.message), []string{c.Verifier})
			h, _ := note.ParseHead(n.Text)
			if s.Head() != h || string(s.Note()) != x.message || len(s.Facts()) != 0 || len(s.Wants()) != 0 {
				t.Errorf("strength %d, %s: Head = %+v, Note = %q", k, x.what, s.Head(), s.Note())
			}
			refused(t, x.what, s, api.ErrState)
		}
	}
}

func TestNewWithoutAHead(t *testing.T) { // P17.1, P17.2: no file, or one without bytes
	for _, k := range []int{-1, 0, 1, 7, 31, 32, 99} {
		c := configOf(k, 3)
		c.Origin = "another.example"
		for _, d := range []string{"", "empty"} {
			disk := loaded(t)
			if d == "empty" {
				disk = loaded(t, headFile(""))
			}
			s, e := client.New(c, opened(t, disk, 0))
			if e != api.OK || s.Head() != (note.Head{Origin: "another.example", Root: tlog.EmptyHash(k)}) || len(s.Note()) != 0 {
				t.Errorf("strength %d: New = %d, Head %+v, Note %q", k, int(e), s.Head(), s.Note())
			}
		}
	}
}

func TestNewByEd25519(t *testing.T) { // P17.1, P17.9: the algorithm that is meant, under a name that is not the origin's
	signer, verifier, _ := note.Generate("key.name", note.AlgEd25519, [32]byte{3})
	b := newBook(32, 8, recs(0, 4)...).signedBy(signer, origin)
	c := configOf(32, 8)
	c.Verifier = verifier
	s, f, d := at(t, c, b, 3)
	path, version := keyOf(3)
	s.Lookup(path, version)
	rounds(s, b, 4)
	results(t, "Lookup", s, client.Result{Id: 3, Record: b.records[3]})
	if again, e := client.New(c, opened(t, d, 5)); e != api.OK || again.Head() != b.head(4) || string(f.Head()) != b.note(4) {
		t.Errorf("New over its files = %d", int(e))
	}
	c.Verifier = configOf(32, 8).Verifier
	if _, e := client.New(c, opened(t, d, 5)); e != api.ErrUnsigned {
		t.Errorf("New with another verifier = %d", int(e))
	}
}

func TestNewTakesNoTask(t *testing.T) { // P17.1: sessions one behind the other on the same files begin with the last head, and with no facts
	b := newBook(0, 2, recs(0, 9)...)
	c := configOf(0, 2)
	d := loaded(t)
	for n := range 10 {
		s, e := client.New(c, opened(t, d, 20))
		if e != api.OK || s.Head().Size != int64(max(n-1, 0)) || len(s.Facts()) != 0 {
			t.Fatalf("New %d = %d, Head %+v, %d facts", n, int(e), s.Head(), len(s.Facts()))
		}
		s.Latest()
		rounds(s, b, n)
		results(t, "Latest", s, client.Result{})
		s.Latest() // under way when the session is given up
	}
}
