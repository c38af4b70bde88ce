package audit_test

import (
	"fmt"
	"slices"
	"strings"
	"testing"

	"ledger/api"
	"ledger/audit"
	"ledger/note"
)

func TestTilesThatAreWanted(t *testing.T) { // P22.6, number 3: of every height, from each size to each greater one
	t.Parallel()
	l := newLog(0, 1, recs(0, 40)...)
	for h := 1; h <= 8; h++ {
		l.h = h
		width := 1 << h
		for m := range 20 {
			for n := m + 1; n <= 40; n += 1 + m%3 {
				a := loaded(t, configOf(0, h), l.saved(m))
				a.Read()
				round(a, l, n)
				var targets []string
				for i := m / width; i <= (n-1)/width; i++ {
					targets = append(targets, pathOfData(h, i, min(width, n-i*width)))
				}
				wants(t, fmt.Sprintf("height %d, from %d to %d", h, m, n), a, targets...)
				round(a, l, n)
				ended(t, "the tiles", a, api.OK)
				if a.Head() != l.head(n) || string(a.Save()) != l.saved(n) {
					t.Fatalf("height %d, from %d to %d: Head = %+v", h, m, n, a.Head())
				}
			}
		}
	}
}

func TestGroups(t *testing.T) { // P22.6, number 3: 64 at a time, the last time as many as are left, the next when all have come
	t.Parallel()
	l := newLog(0, 1, recs(0, 400)...)
	for _, x := range []struct {
		from, to int
		groups   []int
	}{
		{0, 2, []int{1}}, {0, 125, []int{63}}, {0, 127, []int{64}}, {0, 128, []int{64}}, {0, 129, []int{64, 1}}, {0, 256, []int{64, 64}}, {0, 257, []int{64, 64, 1}}, {0, 400, []int{64, 64, 64, 8}},
		{1, 128, []int{64}}, {1, 129, []int{64, 1}}, {2, 130, []int{64}}, {3, 130, []int{64}}, {3, 131, []int{64, 1}}, {127, 400, []int{64, 64, 9}}, {128, 400, []int{64, 64, 8}}, {399, 400, []int{1}},
	} {
		what := fmt.Sprintf("from %d to %d", x.from, x.to)
		a := loaded(t, configOf(0, 1), l.saved(x.from))
		a.Read()
		round(a, l, x.to)
		next := x.from / 2
		for _, size := range x.groups {
			var targets []string
			for range size {
				targets = append(targets, pathOfData(1, next, min(2, x.to-2*next)))
				next++
			}
			wants(t, what, a, targets...)
			half := make([][]byte, len(a.Wants()))
			half[0] = l.answer(a.Wants()[0], x.to)
			a.Give(half)
			if size > 1 {
				wants(t, what+": one has come", a, targets[1:]...)
				round(a, l, x.to)
			}
		}
		ended(t, what, a, api.OK)
		if string(a.Save()) != l.saved(x.to) {
			t.Errorf("%s: another state", what)
		}
	}
}

func TestFaultInAnyGroup(t *testing.T) { // number 3, P22.2: a group is looked at when it has come, the first error ends the reading
	l := newLog(0, 1, recs(0, 300)...)
	for group, start := range []int{0, 128, 256} {
		for _, x := range []struct {
			e      api.Errno
			answer []byte
		}{{api.ErrResponse, []byte("x")}, {api.ErrRefused, answerOf(404, "")}, {api.ErrBody, ok("")}, {api.ErrRecord, ok(lengthened("a", "b"))}} {
			a := loaded(t, configOf(0, 1), l.saved(1))
			a.Read()
			for range group + 1 {
				round(a, l, 300)
			}
			wanted := a.Wants()
			if targetOf(wanted[0]) != pathOfData(1, start/2, 2) {
				t.Fatalf("group %d begins with %s", group, targetOf(wanted[0]))
			}
			var answers [][]byte
			for _, w := range wanted {
				answers = append(answers, l.answer(w, 300))
			}
			answers[len(answers)-1] = x.answer
			a.Give(answers)
			ended(t, fmt.Sprintf("a fault in group %d", group), a, x.e)
			hasRead(t, "a fault", a, l, 1)
		}
	}
}

// headsToRead: messages and why they are no signed heads, one reason behind the other.
func headsToRead(k int) []struct {
	what, message string
	e             api.Errno
} {
	l := newLog(k, 2, recs(0, 9)...)
	stranger, _ := keysOf(origin, 2)
	other, _ := keysOf("other", 9)
	h := l.head(9)
	elsewhere, empty := h, note.Head{Origin: origin, Root: hashOf(k)}
	elsewhere.Origin = "else"
	full := empty
	full.Root[31] ^= 1
	spoilt := func(message string) string {
		text, sigs, _ := note.Split([]byte(message))
		sigs[len(sigs)-1].Bytes[0] ^= 1
		m, _ := note.Format(text, sigs)
		return string(m)
	}
	great := h
	great.Size = 65537
	greatest := h
	greatest.Size = api.MaxRecords
	both := full
	both.Origin = "else"
	return []struct {
		what, message string
		e             api.Errno
	}{
		{"too long", strings.Repeat("x", 65537), api.ErrLong}, {"a note that is too long", l.note(9) + strings.Repeat("x", 65536), api.ErrLong},
		{"nothing", "", api.ErrNote}, {"no note", strings.Repeat("x", 65536), api.ErrNote}, {"a cut note", l.note(9)[:len(l.note(9))-1], api.ErrNote}, {"a note and more", l.note(9) + "\n", api.ErrNote},
		{"a false signature", spoilt(l.note(9)), api.ErrSignature}, {"a false signature over no head", spoilt(signText("x\n", l.signer)), api.ErrSignature}, {"a false one beside a stranger's", spoilt(signHead(h, stranger, l.signer)), api.ErrSignature},
		{"a stranger's", signHead(h, stranger), api.ErrUnsigned}, {"another name's", signHead(h, other), api.ErrUnsigned}, {"a stranger's over no head", signText("x\n", stranger), api.ErrUnsigned},
		{"no head", signText("x\n", l.signer), api.ErrHead}, {"two lines", signText(origin+"\n9\n", l.signer), api.ErrHead}, {"four lines", signText(mustText(h)+"x\n", l.signer), api.ErrHead}, {"a size with a zero ahead", signText(strings.Replace(mustText(h), "\n9\n", "\n09\n", 1), l.signer), api.ErrHead},
		{"another origin", signHead(elsewhere, l.signer), api.ErrOrigin}, {"another origin, no records and a root", signHead(both, l.signer), api.ErrOrigin},
		{"no records and a root", signHead(full, l.signer), api.ErrHead},
		{"65537 records", signHead(great, l.signer), api.ErrLong}, {"2^48 records", signHead(greatest, l.signer), api.ErrLong},
		{"no records", signHead(empty, l.signer), api.OK},
	}
}

func mustText(h note.Head) string {
	text, e := note.FormatHead(h)
	if e != api.OK {
		panic(e)
	}
	return text
}

func TestHeads(t *testing.T) { // number 1, P22.1, P22.2: the errors in their order, whatever was read ahead
	for _, k := range []int{0, 2} {
		l := newLog(k, 2, recs(0, 9)...)
		for _, x := range headsToRead(k) {
			for _, had := range []int{0, 1, 9} {
				a := loaded(t, configOf(k, 2), l.saved(had))
				a.Read()
				want(t, "Give", a.Give([][]byte{ok(x.message)}), api.OK)
				ended(t, x.what, a, x.e)
				hasRead(t, x.what, a, l, had)
			}
		}
	}
}

func TestHeadsOfSeveralSigners(t *testing.T) { // P22.1, number 1: a stranger's line beside the log's is let go; the note is kept as it came
	l := newLog(0, 2, recs(0, 9)...)
	stranger, _ := keysOf("witness", 2)
	message := signHead(l.head(5), stranger, l.signer)
	a := begun(t, configOf(0, 2))
	a.Read()
	a.Give([][]byte{ok(message)})
	rounds(a, l, 9)
	ended(t, "two signers", a, api.OK)
	if string(a.Note()) != message || string(a.Save()) != stateOf(message, l.records[:5]...) {
		t.Errorf("Note = %q", a.Note())
	}
	if b := loaded(t, configOf(0, 2), string(a.Save())); string(b.Note()) != message {
		t.Errorf("Note of Load = %q", b.Note())
	}
	readTo(a, l, 5) // the same head by another note
	ended(t, "the same head", a, api.OK)
	readTo(a, l, 3)
	if string(a.Note()) != message {
		t.Errorf("Note = %q behind a head that isn't greater", a.Note())
	}
}

func TestAnswersToLatest(t *testing.T) { // P22.2, number 1: looked at ahead of the head
	l := newLog(0, 2, recs(0, 9)...)
	right := ok(l.note(9))
	for _, x := range []struct {
		what   string
		answer []byte
		e      api.Errno
	}{
		{"no response", []byte("x"), api.ErrResponse}, {"cut", right[:len(right)-1], api.ErrResponse}, {"a byte more", append(slices.Clone(right), '\n'), api.ErrResponse}, {"twice", append(slices.Clone(right), right...), api.ErrResponse},
		{"404", answerOf(404, "Not Found\n"), api.ErrRefused}, {"201", answerOf(201, l.note(9)), api.ErrRefused}, {"204", []byte("HTTP/1.1 204 No Content\r\n\r\n"), api.ErrRefused}, {"500 and a head", answerOf(500, l.note(9)), api.ErrRefused},
		{"404 and more", append(answerOf(404, ""), 'x'), api.ErrResponse},
		{"a long 404", answerOf(404, strings.Repeat("x", limit)), api.ErrResponse},
		{"a blank", []byte(" "), api.ErrResponse},
		{"nothing in it", ok(""), api.ErrNote},
	} {
		a := loaded(t, configOf(0, 2), l.saved(4))
		a.Read()
		want(t, "Give", a.Give([][]byte{x.answer}), api.OK)
		ended(t, x.what, a, x.e)
		hasRead(t, x.what, a, l, 4)
	}
	for _, form := range []string{"HTTP/1.0 200 OK\r\n\r\n" + l.note(9), "HTTP/1.1 200\n\n" + l.note(9), fmt.Sprintf("HTTP/1.1 200 fine\nTransfer-Encoding: chunked\n\n%x\n%s\n0\n\n", len(l.note(9)), l.note(9))} {
		a := begun(t, configOf(0, 2))
		a.Read()
		a.Give([][]byte{[]byte(form)})
		wants(t, "another form", a, "/tile/2/data/000", "/tile/2/data/001", "/tile/2/data/002.p/1")
	}
}

func TestLimit(t *testing.T) { // P22.2, P22.6: of every answer its bytes may be as many as the limit, and no more
	l := newLog(0, 2, recs(0, 9)...)
	c := configOf(0, 2)
	head, data := ok(l.note(4)), ok(lengthened(l.records[:4]...))
	for _, x := range []struct {
		limit int
		e     api.Errno
	}{{len(head) - 1, api.ErrResponse}, {1, api.ErrResponse}, {len(head), api.ErrState}, {len(data) - 1, api.ErrState}, {len(data), api.ErrState}} {
		c.Limit = x.limit
		a := begun(t, c)
		for _, longer := range []string{string(head) + "x", string(head) + string(head), string(head) + strings.Repeat("x", limit)} {
			a.Read()
			a.Give([][]byte{[]byte(longer)})
			ended(t, "bytes behind the head", a, api.ErrResponse)
		}
		a.Read()
		a.Give([][]byte{head})
		want(t, "the head", a.Result(), x.e)
		if x.e != api.ErrState {
			continue
		}
		a.Give([][]byte{data})
		if x.limit < len(data) {
			ended(t, "a tile above the limit", a, api.ErrResponse)
			hasRead(t, "a tile above the limit", a, l, 0)
		} else {
			ended(t, "a tile of the limit", a, api.OK)
			hasRead(t, "a tile of the limit", a, l, 4)
		}
	}
	c.Limit = api.MaxBytes
	a := begun(t, c)
	a.Read()
	a.Give([][]byte{ok(strings.Repeat("x", api.MaxBytes))})
	ended(t, "above the greatest limit", a, api.ErrResponse)
}

func TestHeadsThatAreNotGreater(t *testing.T) { // number 2, P22.1: OK, if the root is that of as many records, else ErrFork; nothing changes
	l := newLog(0, 2, recs(0, 20)...)
	for m := range 17 {
		for n := 0; n <= m; n++ {
			a := loaded(t, configOf(0, 2), l.saved(m))
			before := told(a)
			readTo(a, l, n)
			ended(t, "a smaller head", a, api.OK)
			for parts := range n {
				fork := newLog(0, 2, append(recs(0, parts), recs(parts, n, 8)...)...)
				readTo(a, fork, n)
				ended(t, "a smaller head of another log", a, api.ErrFork)
			}
			if n > 0 {
				turned := l.head(n)
				turned.Root[31] ^= 1
				a.Read()
				a.Give([][]byte{ok(signHead(turned, l.signer))})
				ended(t, "a root with a bit turned", a, api.ErrFork)
			}
			if told(a) != before {
				t.Fatalf("a head of %d changes one who has read %d", n, m)
			}
			if m < 20 && n == m {
				readTo(a, l, 20)
				ended(t, "behind forks", a, api.OK)
			}
		}
	}
}

// spoiltTile: a tile of four records with a fault at one of them, or at its whole.
func spoiltTile(l *logbook, from, at int, fault string) []byte {
	records := slices.Clone(l.records[from : from+4])
	switch fault {
	case "record":
		records[at] += "\n"
	case "path":
		records[at] = strings.ReplaceAll(records[at], "m.example", "mexample")
	case "version":
		records[at] = strings.ReplaceAll(records[at], "v1.0.0", "v2.0.0")
	case "sum":
		records[at] = strings.Replace(records[at], "h1:", "h1;", 1)
	case "other":
		records[at] = rec(99, 9)
	case "empty":
		records[at] = ""
	case "long":
		return ok(strings.Replace(lengthened(records...), lengthened(records[at]), "\x04\x01"+strings.Repeat("x", 1025), 1))
	case "fewer":
		return ok(lengthened(records[:3]...))
	case "more":
		return ok(lengthened(append(records, records[at])...))
	case "cut":
		body := lengthened(records...)
		return ok(body[:len(body)-1])
	case "behind":
		return ok(lengthened(records...) + "\x00")
	case "refused":
		return answerOf(404, lengthened(records...))
	case "response":
		return []byte("HTTP/1.1 200 OK\r\nContent-Length: 9999\r\n\r\n" + lengthened(records...))
	}
	return ok(lengthened(records...))
}

// faultsOf: the number with which each fault of a tile ends a reading, where the records aren't read ahead.
func faultsOf() map[string]api.Errno {
	return map[string]api.Errno{"record": api.ErrRecord, "path": api.ErrModPath, "version": api.ErrVersion, "sum": api.ErrSum, "other": api.ErrAuth, "empty": api.ErrRecord, "long": api.ErrBody, "fewer": api.ErrBody, "more": api.ErrBody, "cut": api.ErrBody, "behind": api.ErrBody, "refused": api.ErrRefused, "response": api.ErrResponse}
}

func TestFaultsOfTiles(t *testing.T) { // number 3, P22.2: each fault, in each tile, of records that were read ahead or not
	l := newLog(0, 2, recs(0, 12)...)
	for fault, e := range faultsOf() {
		for _, had := range []int{0, 1, 2, 3, 5, 9} {
			for number := had / 4; number < 3; number++ {
				for place := range 4 {
					a := loaded(t, configOf(0, 2), l.saved(had))
					a.Read()
					round(a, l, 12)
					var answers [][]byte
					for _, w := range a.Wants() {
						answers = append(answers, l.answer(w, 12))
					}
					answers[number-had/4] = spoiltTile(l, 4*number, place, fault)
					want(t, "Give", a.Give(answers), api.OK)
					ended(t, fmt.Sprintf("%s at %d of tile %d, %d read", fault, place, number, had), a, e)
					hasRead(t, fault, a, l, had)
				}
			}
		}
	}
}

func TestFirstFaultCounts(t *testing.T) { // number 3, P0.1: of two tiles the first, each to its end; a record that isn't the one that was read counts at its place
	l := newLog(0, 2, recs(0, 12)...)
	faults := faultsOf()
	for first, e := range faults {
		for second, f := range faults {
			a := begun(t, configOf(0, 2))
			a.Read()
			round(a, l, 12)
			a.Give([][]byte{ok(lengthened(l.records[:4]...)), spoiltTile(l, 4, 3, first), spoiltTile(l, 8, 0, second)})
			right := e
			if first == "other" { // one that wasn't read ahead is found at the end alone
				right = f
			}
			ended(t, first+", then "+second, a, right)
			a = loaded(t, configOf(0, 2), l.saved(7))
			a.Read()
			round(a, l, 12)
			a.Give([][]byte{spoiltTile(l, 4, 2, first), spoiltTile(l, 8, 0, second)})
			ended(t, first+" of one that was read, then "+second, a, e)
		}
	}
	two := func(records ...string) api.Errno {
		a := loaded(t, configOf(0, 2), l.saved(3))
		a.Read()
		round(a, l, 4)
		a.Give([][]byte{ok(lengthened(records...))})
		if a.Result() != api.OK {
			hasRead(t, "two faults in one tile", a, l, 3)
		}
		return a.Result()
	}
	r, other := l.records, rec(99)
	want(t, "another, none", two(r[0], other, "x", r[3]), api.ErrAuth)
	want(t, "none, another", two(r[0], "x", other, r[3]), api.ErrRecord)
	want(t, "another, none at the end", two(r[0], r[1], other, "x"), api.ErrAuth)
	want(t, "none at the end", two(r[0], r[1], r[2], "x"), api.ErrRecord)
	want(t, "two swapped", two(r[1], r[0], r[2], r[3]), api.ErrAuth)
	want(t, "another that wasn't read", two(r[0], r[1], r[2], other), api.ErrAuth)
	want(t, "no fault", two(r[0], r[1], r[2], r[3]), api.OK)
}

func TestRootAtTheEnd(t *testing.T) { // number 4, P22.1: records that are others, or stand in another order
	l := newLog(0, 2, recs(0, 12)...)
	for _, had := range []int{0, 4, 6} {
		for i := had; i < 12; i++ {
			for j := i; j < 12; j++ {
				served := newLog(0, 2, slices.Clone(l.records)...)
				served.records[i], served.records[j] = served.records[j], served.records[i]
				if i == j {
					served.records[i] = rec(i, 9)
				}
				a := loaded(t, configOf(0, 2), l.saved(had))
				a.Read()
				round(a, l, 12)
				rounds(a, served, 12)
				ended(t, fmt.Sprintf("%d and %d", i, j), a, api.ErrAuth)
				hasRead(t, "other records", a, l, had)
				readTo(a, l, 12)
				ended(t, "the records themselves", a, api.OK)
				hasRead(t, "the records themselves", a, l, 12)
			}
		}
	}
}

func TestGrownFork(t *testing.T) { // P22.1, P22.2: a log whose first records are no longer what they were, and which has grown: ErrAuth
	l := newLog(0, 2, recs(0, 12)...)
	for m := 1; m < 12; m++ {
		for parts := range m {
			fork := newLog(0, 2, append(recs(0, parts), recs(parts, 12, 8)...)...)
			for n := m + 1; n <= 12; n++ {
				a := loaded(t, configOf(0, 2), l.saved(m))
				readTo(a, fork, n)
				ended(t, fmt.Sprintf("parts at %d, from %d to %d", parts, m, n), a, api.ErrAuth)
				hasRead(t, "a fork", a, l, m)
			}
		}
	}
}

func TestGreatestLog(t *testing.T) { // P22.6: 65536 records are read, by every height; 65537 are ErrLong
	t.Parallel()
	l := newLog(0, 8, append(recs(0, top-1), rec(17, 1))...)
	great := l.head(top)
	great.Size++
	for _, h := range []int{8, 1} {
		l.h = h
		a := begun(t, configOf(0, h))
		a.Read()
		groups := 0
		for ; len(a.Wants()) > 0; groups++ {
			round(a, l, top)
		}
		ended(t, "65536 records", a, api.OK)
		if right := 1 + top>>h/64; groups != right {
			t.Errorf("%d groups; want %d", groups, right)
		}
		isGreatest(t, a, l)
		a.Read()
		a.Give([][]byte{ok(signHead(great, l.signer))})
		ended(t, "65537 records", a, api.ErrLong)
		isGreatest(t, loaded(t, configOf(0, h), string(a.Save())), l)
	}
}

// isGreatest: has read 65536 records, of which the last repeats a key.
func isGreatest(t *testing.T, a *audit.Auditor, l *logbook) {
	t.Helper()
	if a.Head().Size != top || string(a.Note()) != l.note(top) {
		t.Fatalf("Head = %+v", a.Head())
	}
	for id, r := range l.records {
		if got, e := a.Record(int64(id)); got != r || e != api.OK {
			t.Fatalf("Record(%d) = %q, %d", id, got, int(e))
		}
	}
	if got := a.Repeats(); len(got) != 1 || got[0] != (audit.Repeat{Key: keyOf(17), I: 17, J: top - 1}) {
		t.Errorf("Repeats = %v", got)
	}
	f := l.factOf(65000, top)
	want(t, "Holds", a.Holds(f), api.OK)
	f.Head.Size++
	want(t, "Holds of a greater head", a.Holds(f), api.ErrArg)
}
