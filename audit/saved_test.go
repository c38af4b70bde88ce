package audit_test

import (
	"slices"
	"strings"
	"testing"

	"ledger/api"
	"ledger/audit"
	"ledger/client"
	"ledger/note"
)

// refuses: Load of it: ErrSaved and nil.
func refuses(t *testing.T, what string, c client.Config, state string) {
	t.Helper()
	if a, e := audit.Load(c, []byte(state)); a != nil || e != api.ErrSaved {
		t.Errorf("Load of %s = %v, %d", what, a != nil, int(e))
	}
}

func TestLoadOfSave(t *testing.T) { // P22.3: tells the same, Result is ErrState, and goes on likewise; Save of what Load took is the state
	for _, h := range []int{1, 3} {
		l := newLog(0, h, someKeysTwice(20)...)
		fork := newLog(0, h, recs(0, 20, 5)...)
		for n := range 21 {
			a := begun(t, configOf(0, h))
			readTo(a, l, n)
			b := loaded(t, configOf(0, h), string(a.Save()))
			if told(a) != told(b) || string(b.Save()) != l.saved(n) {
				t.Errorf("Load of Save of %d tells\n%.2000s; want\n%.2000s", n, told(b), told(a))
			}
			ended(t, "Load", b, api.ErrState)
			want(t, "Quit behind Load", b.Quit(), api.ErrState)
			want(t, "Give behind Load", b.Give(nil), api.ErrState)
			for to := range 21 {
				for _, from := range []*logbook{fork, l} {
					readTo(a, from, to)
					readTo(b, from, to)
					if told(a) != told(b) || a.Result() != b.Result() {
						t.Fatalf("Load of Save of %d goes on otherwise to %d", n, to)
					}
				}
			}
		}
	}
}

// someKeysTwice: records of which each third repeats a key.
func someKeysTwice(n int) []string {
	out := recs(0, n)
	for i := 2; i < n; i += 3 {
		out[i] = rec(i/2, byte(i%2))
	}
	return out
}

func TestSaveUnderWay(t *testing.T) { // P22.3: what was read ahead of the reading
	l := newLog(0, 1, recs(0, 150)...)
	a := at(t, configOf(0, 1), l, 5)
	a.Read()
	for len(a.Wants()) > 0 {
		b := loaded(t, configOf(0, 1), string(a.Save()))
		hasRead(t, "Load of Save under way", b, l, 5)
		round(a, l, 150)
	}
	if string(a.Save()) != l.saved(150) {
		t.Error("Save behind the reading")
	}
}

func TestStatesWithAByteTurned(t *testing.T) { // P22.3: no byte may be another one, be left out or stand twice
	l := newLog(0, 2, recs(0, 3)...)
	p := newPair(t, configOf(0, 2))
	s := l.saved(3)
	for i := range s {
		for bit := range 8 {
			turned := []byte(s)
			turned[i] ^= 1 << bit
			want(t, "Load with a bit turned", p.Load(string(turned)), api.ErrSaved)
		}
		want(t, "Load without a byte", p.Load(s[:i]+s[i+1:]), api.ErrSaved)
		want(t, "Load of a beginning", p.Load(s[:i]), api.ErrSaved)
		for _, b := range []string{"\x00", "\n", "0", s[i : i+1]} {
			want(t, "Load with a byte more", p.Load(s[:i]+b+s[i:]), api.ErrSaved)
		}
	}
	want(t, "Load", p.Load(s), api.OK)
}

func TestLengthsOfNotes(t *testing.T) { // P22.3, Load: a number in its one form, with a line's end, just 0 if there are no records
	l := newLog(0, 2, recs(0, 3)...)
	c := configOf(0, 2)
	s := l.saved(3)
	_, rest, _ := strings.Cut(s, "\n")
	for _, length := range []string{"", "0", "00", "1", "0125", "+125", "-125", "-0", " 125", "125 ", "0x7d", "1_2_5", "124", "126", "65536", "65537", "065536", "99999", "100000", "1000000", "4294967421", "18446744073709551741", "99999999999999999999999999", "\x31\x32\x35\x00", "１２５"} {
		refuses(t, length, c, length+"\n"+rest)
	}
	if "125\n"+rest != s {
		t.Fatalf("the state begins with %q", s[:8])
	}
	for _, x := range []string{"", "\n", "0", "0\r\n", "0 \n", "0\n\n", "0\n0\n", "0\n\x00", "0\n\x00\x00", "00\n", "-0\n", "+0\n", "a\n", "1\n", "1\n\n", "125", "125\n", "125\r\n" + rest, "125" + rest, strings.Repeat("1", 1<<20), strings.Repeat("1", 1<<20) + "\n"} {
		refuses(t, x[:min(len(x), 20)], c, x)
	}
	message := l.note(3)
	refuses(t, "records without a note", c, "0\n"+lengthened(l.records[:3]...))
	refuses(t, "a note without records", c, stateOf(message))
	refuses(t, "a note of no records", c, stateOf(l.note(0)))
	refuses(t, "a note of no records with one", c, stateOf(l.note(0), l.records[0]))
	if a := loaded(t, c, "0\n"); string(a.Save()) != "0\n" || a.Head() != l.head(0) {
		t.Errorf("Load of nothing that was read: Head = %+v", a.Head())
	}
	for _, none := range [][]byte{nil, {}} {
		if a, e := audit.Load(c, none); a != nil || e != api.ErrSaved {
			t.Errorf("Load of no bytes = %v, %d", a != nil, int(e))
		}
	}
}

func TestHeadsOfStates(t *testing.T) { // P22.3, Load: the note is a signed head of this config, of as many records, with their root
	l := newLog(0, 2, recs(0, 9)...)
	c := configOf(0, 2)
	for _, x := range headsToRead(0) {
		refuses(t, x.what, c, stateOf(x.message, l.records...))
		refuses(t, x.what+", one record", c, stateOf(x.message, l.records[0]))
	}
	for n := 1; n <= 9; n++ {
		for m := 1; m <= 9; m++ {
			if n != m {
				refuses(t, "a note of another size", c, stateOf(l.note(n), l.records[:m]...))
				h := l.head(m)
				h.Size = int64(n)
				refuses(t, "another size with these records' root", c, stateOf(signHead(h, l.signer), l.records[:m]...))
			}
		}
		h := l.head(n)
		h.Root[n] ^= 1
		refuses(t, "another root", c, stateOf(signHead(h, l.signer), l.records[:n]...))
		swapped := slices.Clone(l.records[:n])
		swapped[0], swapped[n-1] = swapped[n-1], swapped[0]
		if n > 1 {
			refuses(t, "swapped records", c, stateOf(l.note(n), swapped...))
		}
		swapped[0] = rec(0, 9)
		refuses(t, "another record", c, stateOf(l.note(n), swapped...))
	}
	other := c
	_, other.Verifier = keysOf(origin, 2)
	refuses(t, "another verifier", other, l.saved(9))
	other = c
	other.Origin = "else"
	refuses(t, "another origin", other, l.saved(9))
	if a, e := audit.Load(c, []byte(l.saved(9))); a == nil || e != api.OK {
		t.Errorf("Load = %v, %d", a != nil, int(e))
	}
	for _, h := range []int{1, 8} { // neither the height nor the limit is in what was read
		other = c
		other.Height, other.Limit = h, 1
		if a, e := audit.Load(other, []byte(l.saved(9))); a == nil || e != api.OK {
			t.Errorf("Load under another height = %v, %d", a != nil, int(e))
		}
	}
}

func TestRecordsOfStates(t *testing.T) { // P22.3, Load: whole records, each one that ParseRecord takes; a root over what is none doesn't help
	c := configOf(0, 2)
	for _, x := range []string{"", "x", rec(0) + "\n", rec(0)[:150], strings.Replace(rec(0), "h1:", "h2:", 1), strings.ReplaceAll(rec(0), "m.example", "M.example"), strings.ReplaceAll(rec(0), "v1", "v2"), rec(0) + rec(1), strings.Repeat("x", 1024), strings.Repeat("x", 1025), strings.Repeat("x", 65535)} {
		for _, records := range [][]string{{x}, {rec(1), x}, {x, rec(1)}, {rec(1), x, rec(2)}} {
			l := newLog(0, 2, records...)
			refuses(t, "a record that is none", c, l.saved(len(records)))
		}
	}
	l := newLog(0, 2, rec(0), longRecord("m.example/"+strings.Repeat("y", 245), "v1.0.0-"+strings.Repeat("z", 121)), rec(0))
	hasRead(t, "the longest record", loaded(t, c, l.saved(3)), l, 3)
	s := l.saved(3)
	refuses(t, "half a length behind", c, s+"\x00")
	refuses(t, "an empty record behind", c, s+"\x00\x00")
	refuses(t, "a record more", c, s+lengthened(rec(0)))
	refuses(t, "a length beyond the end", c, stateOf(l.note(3), l.records[:2]...)+"\x00\x98"+rec(0))
	refuses(t, "a length short of the end", c, stateOf(l.note(3), l.records[:2]...)+"\x00\x96"+rec(0))
}

// paddedNote: a signed head in a note of so many bytes, by a stranger's long line.
func paddedNote(l *logbook, n, size int) string {
	text, sigs, e := note.Split([]byte(l.note(n)))
	if e != api.OK {
		panic(e)
	}
	for more := 1; ; more++ {
		stranger := note.Signature{Name: "s" + strings.Repeat("x", more%97), Hash: 7, Bytes: make([]byte, (size-len(l.note(n)))*3/4-more)}
		m, e := note.Format(text, append(slices.Clone(sigs), stranger))
		if e == api.OK && len(m) == size {
			return string(m)
		}
		if more > 1000 {
			panic("no note of this size")
		}
	}
}

func TestLongestNote(t *testing.T) { // P22.3: 65536 bytes of a note are taken, 65537 are not
	l := newLog(0, 2, recs(0, 3)...)
	c := configOf(0, 2)
	message := paddedNote(l, 3, 65536)
	a := begun(t, c)
	a.Read()
	a.Give([][]byte{ok(message)})
	rounds(a, l, 3)
	ended(t, "the longest note", a, api.OK)
	s := string(a.Save())
	if !strings.HasPrefix(s, "65536\n") || string(a.Note()) != message {
		t.Errorf("Save = %.20q", s)
	}
	if b := loaded(t, c, s); told(b) != told(a) {
		t.Error("Load of the longest note tells otherwise")
	}
	for _, size := range []int{65535, 9999, 10000, 1000} {
		shorter := stateOf(paddedNote(l, 3, size), l.records...)
		if b := loaded(t, c, shorter); string(b.Save()) != shorter {
			t.Errorf("Save of Load of a note of %d bytes", size)
		}
	}
	refuses(t, "a note of 65537 bytes", c, stateOf(message+"\n", l.records...))
}

func TestTooManyRecords(t *testing.T) { // P22.3, Load: 65537 records; 65536 are taken (TestGreatestLog)
	t.Parallel()
	l := newLog(0, 8, recs(0, top+1)...)
	refuses(t, "65537 records", configOf(0, 8), l.saved(top+1))
	refuses(t, "65537 records with the note of 65536", configOf(0, 8), stateOf(l.note(top), l.records...))
}
