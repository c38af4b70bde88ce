package server_test

import (
	"bytes"
	"slices"
	"strings"
	"testing"

	"ledger/api"
	"ledger/note"
	"ledger/server"
)

func TestLookup(t *testing.T) { // P15.3: the body byte by byte, at every size of the log
	c := config(2)
	_, s := begun(t, c)
	var records []string
	for n := range 12 {
		if b, e := s.Lookup(keyOf(n)); b != nil || e != api.ErrAbsent {
			t.Errorf("Lookup(%s) ahead of it = %q, %d", keyOf(n), b, int(e))
		}
		s.Append([]string{rec(n), rec(n, 1)})
		records = append(records, rec(n))
		isLog(t, "grown", s, c, records)
	}
	_, s = begun(t, c, three()...)
	if b, e := s.Lookup("a.com/X@v1.0.0-RC1"); string(b) != "1\n"+three()[1]+"\n"+headOf(c, three()) || e != api.OK {
		t.Errorf("Lookup = %q, %d", b, int(e))
	}
}

func TestLookupRefuses(t *testing.T) { // P15.3, P0.1: ErrKey, ErrModPath, ErrVersion, ErrAbsent, in this order; the key is not escaped
	_, s := begun(t, config(2), three()...)
	for want, keys := range map[api.Errno][]string{
		api.ErrKey:     {"", "a.com", "a.com@v1.0.0@", "@@", "A.com@x@y", "a.com v1.0.0", strings.Repeat("@", 1<<20)},
		api.ErrModPath: {"@v1.0.0", "A.com@v1", "a.com/!x@v1.0.0-!r!c1", "a.com/x%21@v1.0.0", "a.com/@v1.0.0", " a.com@v1.0.0", "a.com\n@v1.0.0", strings.Repeat("a", 1<<20) + "@v1.0.0", "\xff@\xff"},
		api.ErrVersion: {"a.com@", "a.com@v1", "a.com@v2.0.0", "b.org/v2@v1.0.0", "a.com@v1.0.0 ", "a.com/X@v1.0.0-!r!c1", "a.com@v1.0.0\n", "a.com@V1.0.0", "a.com@v1.0.0-" + strings.Repeat("a", 1<<20)},
		api.ErrAbsent:  {"a.com@v1.0.1", "b.com@v1.0.0", "a.com/x@v1.0.0-RC1", "a.com/X@v1.0.0-rc1", "a.com@v0.1.0", "a.com@v2.0.0+incompatible", "b.org/v2@v2.0.0-a"},
	} {
		for _, key := range keys {
			if b, e := s.Lookup(key); b != nil || e != want {
				t.Errorf("Lookup(%.60q) = %.60q, %d; want %d", key, b, int(e), int(want))
			}
		}
	}
}

// parsedAsTold: ParseLookup, against the chapter's words; what is taken has one reading.
func parsedAsTold(t *testing.T, body string) api.Errno {
	t.Helper()
	id, record, head, e := parseLookup(body)
	gotId, gotRecord, gotHead, got := server.ParseLookup([]byte(body))
	if got != e || gotId != id || gotRecord != record || string(gotHead) != head {
		t.Errorf("ParseLookup(%.100q) = %d, %.100q, %.100q, %d; want %d, %.100q, %.100q, %d", body, gotId, gotRecord, gotHead, int(got), id, record, head, int(e))
	}
	if e != api.OK && gotHead != nil {
		t.Errorf("ParseLookup(%.100q) is refused, and tells a head", body)
	}
	return e
}

func TestParseLookupExamples(t *testing.T) { // P15.4: example 10
	c := config(8)
	_, s := begun(t, c, three()...)
	r, head := three()[0], headOf(c, three())
	_, body := s.Answer("GET", "/lookup/a.com@v1.0.0")
	takes := func(body string, id int64, note string) {
		t.Helper()
		if got, record, n, e := server.ParseLookup([]byte(body)); got != id || record != r || string(n) != note || e != api.OK {
			t.Errorf("ParseLookup(%.100q) = %d, %q, %q, %d", body, got, record, n, int(e))
		}
	}
	takes(string(body), 0, head)
	takes("281474976710655\n"+r+"\n"+head, 1<<48-1, head)
	takes("0\n"+r+"\n\n"+head, 0, "\n"+head)
	first, _, _ := strings.Cut(r, "\n")
	for _, bad := range []string{"", "00\n" + r + "\n" + head, "281474976710656\n" + r + "\n" + head, "0\n" + first + "\n\n" + head, "0\n" + r + head, string(body[:len(body)-1])} {
		if id, record, n, e := server.ParseLookup([]byte(bad)); id != 0 || record != "" || n != nil || e != api.ErrBody {
			t.Errorf("ParseLookup(%.100q) = %d, %q, %q, %d", bad, id, record, n, int(e))
		}
	}
}

func TestLookupsAreReadBack(t *testing.T) { // P15.4: the id, the record and the signed head, of every record
	for _, h := range []int{1, 8} {
		c := config(h)
		records := slices.Concat(three(), recs(0, 20))
		_, s := begun(t, c, records...)
		for i, r := range records {
			b, _ := s.Lookup(keyIn(r))
			if id, record, head, e := server.ParseLookup(b); id != int64(i) || record != r || string(head) != headOf(c, records) || e != api.OK {
				t.Errorf("ParseLookup of the body of %s: %d, %q, %q, %d", keyIn(r), id, record, head, int(e))
			}
		}
	}
}

func TestParseLookupAsTold(t *testing.T) { // P15.4: each edit and each cut of right bodies
	c := config(1)
	_, s := begun(t, c, three()...)
	pieces := []string{"\n", "\n\n", "0", "1", "9", "00", " ", "\r", "\x00", "\xff", "A", "a", "/", "=", "+", "-", "—", "h1:", "\xe2\x80\x94 b AAAAB3g=\n"}
	taken := 0
	for _, key := range []string{"a.com@v1.0.0", "a.com/X@v1.0.0-RC1"} {
		b, _ := s.Lookup(key)
		body := string(b)
		for _, edited := range append(edits(body, pieces...), body) {
			if parsedAsTold(t, edited) == api.OK {
				taken++
			}
		}
		for i := range len(body) {
			if parsedAsTold(t, body[:i]) == api.OK {
				t.Errorf("%d bytes of %d are taken", i, len(body))
			}
			parsedAsTold(t, body[i:])
		}
	}
	if taken < 50 {
		t.Errorf("%d edits are taken", taken)
	}
}

func TestNumbersOfLookups(t *testing.T) { // P15.4: from 0 to 2^48 - 1, in their one form
	tail := "\n" + three()[0] + "\n" + headOf(config(1), three())
	for number, want := range map[string]api.Errno{
		"0": api.OK, "1": api.OK, "10": api.OK, "99999999999999": api.OK, "281474976710654": api.OK, "281474976710655": api.OK,
		"281474976710656": api.ErrBody, "281474976710660": api.ErrBody, "999999999999999": api.ErrBody, "1000000000000000": api.ErrBody, "9223372036854775807": api.ErrBody, "9223372036854775808": api.ErrBody, "18446744073709551616": api.ErrBody, "18446744073709551617": api.ErrBody,
		"": api.ErrBody, "-0": api.ErrBody, "-1": api.ErrBody, "+1": api.ErrBody, "01": api.ErrBody, "00": api.ErrBody, " 1": api.ErrBody, "1 ": api.ErrBody, "1\r": api.ErrBody, "0x1": api.ErrBody, "1e3": api.ErrBody, "1_0": api.ErrBody, "\n1": api.ErrBody, "١": api.ErrBody,
		strings.Repeat("9", 1<<21): api.ErrBody, strings.Repeat("0", 1<<21): api.ErrBody, "1" + strings.Repeat("0", 1<<20): api.ErrBody,
	} {
		if e := parsedAsTold(t, number+tail); e != want {
			t.Errorf("the number %.40q: %d", number, int(e))
		}
	}
}

func TestRecordsOfLookups(t *testing.T) { // P15.4: just the two lines that modver.ParseRecord takes
	head := headOf(config(1), three())
	longest := recordOf("a.com/"+strings.Repeat("b", 249), "v1.0.0-"+strings.Repeat("c", 121))
	r := three()[0]
	lines := strings.SplitAfter(r, "\n")
	if len(longest) != 873 {
		t.Fatalf("the longest record has %d bytes", len(longest))
	}
	for record, want := range map[string]api.Errno{
		r: api.OK, longest: api.OK,
		"": api.ErrBody, "\n": api.ErrBody, "\n\n": api.ErrBody, lines[0]: api.ErrBody, lines[1]: api.ErrBody, lines[1] + lines[0]: api.ErrBody, lines[0] + lines[0]: api.ErrBody, r + r: api.ErrBody, r + lines[0]: api.ErrBody, "\n" + r: api.ErrBody, lines[0] + "\n" + lines[1]: api.ErrBody,
		strings.ReplaceAll(r, "a.com", "A.com"): api.ErrBody, strings.ReplaceAll(r, "v1.0.0", "v2.0.0"): api.ErrBody, strings.ReplaceAll(r, "v1.0.0", "v1"): api.ErrBody, strings.Replace(r, "h1:", "h2:", 1): api.ErrBody, strings.ReplaceAll(r, "\n", "\r\n"): api.ErrBody, strings.ReplaceAll(r, " ", "  "): api.ErrBody, strings.Replace(r, "a.com", "b.com", 1): api.ErrBody,
		strings.ReplaceAll(longest, "ccc", "cccc"): api.ErrBody, strings.Repeat("a", 1<<21): api.ErrBody, strings.Repeat("\n", 1<<21): api.ErrBody,
	} {
		if e := parsedAsTold(t, "7\n"+record+"\n"+head); e != want {
			t.Errorf("the record %.100q: %d", record, int(e))
		}
	}
}

// noteOf: a note of so many bytes, by a signer of its own.
func noteOf(t *testing.T, size int) string {
	t.Helper()
	base, e := note.Sign("\n", []string{signerOf(note.AlgDrill, 77)})
	if e != api.OK || len(base) > size {
		t.Fatal(e)
	}
	return strings.Repeat("x", size-len(base)) + string(base) // the signature is not asked for
}

func TestNotesOfLookups(t *testing.T) { // P15.4: whoever signed it and whatever its text is, up to the end of the body and to api.MaxNote bytes
	start := "0\n" + three()[0] + "\n"
	many := "text\n\n" + strings.Repeat("— a AAAAB3g=\n", 16)
	for n, want := range map[string]api.Errno{
		headOf(config(1), nil): api.OK, "no head\n\n— somebody AAAAB3g=\n": api.OK, "\n\n— a AAAAB3g=\n": api.OK, "a\n\nb\n\n— a AAAAB3g=\n": api.OK, many: api.OK, noteOf(t, api.MaxNote): api.OK,
		noteOf(t, api.MaxNote+1): api.ErrBody, many + "— a AAAAB3g=\n": api.ErrBody, "": api.ErrBody, "\n": api.ErrBody, "x": api.ErrBody, "\n— a AAAAB3g=\n": api.ErrBody, "a\n\n- a AAAAB3g=\n": api.ErrBody, "a\n\n— a AAAAB3g=": api.ErrBody, "a\n\n— a AAAAB3g=\n\n": api.ErrBody, "a\n\n— a AAAAB3g=\nx": api.ErrBody, "\xff\n\n— a AAAAB3g=\n": api.ErrBody, strings.Repeat("x", 1<<21): api.ErrBody,
	} {
		if e := parsedAsTold(t, start+n); e != want {
			t.Errorf("the note %.60q of %d bytes: %d", n, len(n), int(e))
		}
	}
}

func TestNilAndEmptyAreOne(t *testing.T) { // P0.1
	_, s := begun(t, config(1), three()...)
	for _, none := range [][]byte{nil, {}, bytes.Repeat([]byte("x"), 5)[:0]} {
		if id, r, head, e := server.ParseLookup(none); id != 0 || r != "" || head != nil || e != api.ErrBody {
			t.Errorf("ParseLookup of none = %d, %q, %q, %d", id, r, head, int(e))
		}
		if b := s.Serve(none); len(b) != 0 {
			t.Errorf("Serve of none = %q", b)
		}
	}
}
