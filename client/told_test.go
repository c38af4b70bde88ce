package client_test

import (
	"fmt"
	"strings"
	"testing"

	"ledger/api"
	"ledger/client"
	"ledger/note"
	"ledger/web"
)

// looks: answers whose body would be right, and what looking at them tells.
func looks(body string) []struct {
	what   string
	answer []byte
	e      api.Errno
} {
	right := ok(body)
	chunks, _ := web.Chunked([]byte(body), 7)
	chunked := "HTTP/1.1 200 OK\r\nTransfer-Encoding: chunked\r\n\r\n" + string(chunks)
	length := fmt.Sprintf("Content-Length: %d\r\n", len(body))
	fields := func(n int) string { return strings.Repeat("a: b\r\n", n) }
	return []struct {
		what   string
		answer []byte
		e      api.Errno
	}{
		{"right", right, api.OK},
		{"of HTTP/1.0", []byte("HTTP/1.0 200 OK\r\n" + length + "\r\n" + body), api.OK},
		{"without a reason", []byte("HTTP/1.1 200\n" + length + "\n" + body), api.OK},
		{"with another reason", []byte("HTTP/1.1 200 Not Found\r\n" + length + "\r\n" + body), api.OK},
		{"with fields", []byte("HTTP/1.1 200 OK\r\n" + fields(63) + length + "\r\n" + body), api.OK},
		{"without a length", []byte("HTTP/1.1 200 OK\r\n\r\n" + body), api.OK},
		{"in chunks", []byte(chunked), api.OK},
		{"with too many fields", []byte("HTTP/1.1 200 OK\r\n" + fields(64) + length + "\r\n" + body), api.ErrResponse},
		{"in chunks, cut", []byte(chunked[:len(chunked)-1]), api.ErrResponse},
		{"in chunks, a byte more", []byte(chunked + "x"), api.ErrResponse},
		{"cut", right[:len(right)-1], api.ErrResponse},
		{"a byte more", append(right[:len(right):len(right)], '\n'), api.ErrResponse},
		{"twice", append(right[:len(right):len(right)], right...), api.ErrResponse},
		{"of HTTP/2.0", []byte("HTTP/2.0 200 OK\r\n" + length + "\r\n" + body), api.ErrResponse},
		{"of no status", []byte("HTTP/1.1 600 OK\r\n" + length + "\r\n" + body), api.ErrResponse},
		{"of two lengths", []byte("HTTP/1.1 200 OK\r\n" + length + length + "\r\n" + body), api.ErrResponse},
		{"the body alone", []byte(body), api.ErrResponse},
		{"a byte", []byte{0}, api.ErrResponse},
		{"a request", []byte("GET / HTTP/1.1\r\nHost: a\r\n\r\n"), api.ErrResponse},
		{"100", []byte("HTTP/1.1 100 Continue\r\n\r\n"), api.ErrRefused},
		{"100 and then right", append([]byte("HTTP/1.1 100 Continue\r\n\r\n"), right...), api.ErrResponse},
		{"201", answerOf(201, body), api.ErrRefused},
		{"204", []byte("HTTP/1.1 204 No Content\r\n\r\n"), api.ErrRefused},
		{"299", answerOf(299, body), api.ErrRefused},
		{"304", []byte("HTTP/1.1 304 Not Modified\r\n\r\n"), api.ErrRefused},
		{"404", answerOf(404, body), api.ErrRefused},
		{"500", answerOf(500, ""), api.ErrRefused},
		{"404, cut", answerOf(404, body)[:60], api.ErrResponse},
		{"404, a byte more", append(answerOf(404, ""), 'x'), api.ErrResponse},
	}
}

func TestLookingAtAnswers(t *testing.T) { // P17.9: to a lookup, a latest and a tile
	b := newBook(0, 8, recs(0, 3)...)
	c := configOf(0, 8)
	path, version := keyOf(1)
	_, data := b.tell("/tile/8/0/000.p/3", 3)
	for _, x := range looks(b.body(1, 3)) {
		p := newPair(t, c, 5)
		p.Lookup(path, version)
		p.Give([][]byte{x.answer})
		if x.e == api.OK {
			wants(t, "a lookup "+x.what, p.c, "/tile/8/0/000.p/3")
		} else {
			refused(t, "a lookup "+x.what, p.c, x.e)
		}
	}
	for _, x := range looks(b.note(3)) {
		p := newPair(t, c, 5)
		p.Latest()
		p.Give([][]byte{x.answer})
		refused(t, "a latest "+x.what, p.c, x.e)
	}
	for _, x := range looks(data) {
		p := newPair(t, c, 5)
		p.Lookup(path, version)
		round(p, b, 3)
		p.Give([][]byte{x.answer})
		if x.e == api.OK {
			results(t, "a tile "+x.what, p.c, client.Result{Id: 1, Record: b.records[1]})
		} else {
			refused(t, "a tile "+x.what, p.c, x.e)
		}
	}
}

// padded: the answer with a field more, so that it has n bytes.
func padded(answer []byte, n int) []byte {
	start, rest, _ := strings.Cut(string(answer), "\r\n")
	const field = "\r\nx: "
	return []byte(start + field + strings.Repeat("y", n-len(answer)-len(field)) + "\r\n" + rest)
}

func TestLimit(t *testing.T) { // P17.9: so many bytes are taken, and no more; whatever they are
	b := newBook(0, 8, recs(0, 3)...)
	path, version := keyOf(1)
	for _, n := range []int{1500, 1501, 4000, 16000} {
		c := configOf(0, 8)
		c.Limit = n
		for _, more := range []int{-1, 0, 1, 2, 100} {
			e := api.OK
			if more > 0 {
				e = api.ErrResponse
			}
			p := newPair(t, c, 5)
			p.Latest()
			p.Give([][]byte{padded(ok(b.note(3)), n+more)})
			refused(t, "a latest", p.c, e)
			p.Lookup(path, version)
			p.Give([][]byte{padded(ok(b.body(1, 3)), n+more)})
			if more > 0 {
				refused(t, "a lookup", p.c, e)
				p.Lookup(path, version)
				round(p, b, 3)
			}
			p.Give([][]byte{padded(b.answer(p.Wants()[0], 3), n+more)})
			if got := p.c.Result().Err; got != e {
				t.Errorf("a tile with %d bytes above the limit: %d", more, int(got))
			}
			p.Latest()
			p.Give([][]byte{padded(answerOf(404, ""), n+more)})
			if e == api.OK {
				e = api.ErrRefused
			}
			refused(t, "404", p.c, e)
		}
	}
	for _, n := range []int{1500, 16000} {
		c := configOf(0, 8)
		c.Limit = n
		p := newPair(t, c, 5)
		for _, answer := range [][]byte{padded(ok(b.note(3)), n), padded(answerOf(404, ""), n), []byte("HTTP/1.1 404 x\r\n\r\n" + strings.Repeat("x", n-18))} {
			p.Latest()
			p.Give([][]byte{append(answer, 'x')})
			refused(t, "whole within the limit, and a byte more", p.c, api.ErrResponse)
		}
	}
	c := configOf(0, 8)
	c.Limit = 1
	p := newPair(t, c, 5)
	for _, answer := range []string{"x", "xx", string(ok(b.note(3)))} {
		p.Latest()
		p.Give([][]byte{[]byte(answer)})
		refused(t, "with the limit 1", p.c, api.ErrResponse)
	}
	c.Limit = 1048576
	p = newPair(t, c, 5)
	p.Latest()
	p.Give([][]byte{ok(strings.Repeat("x", 1048576-200))})
	refused(t, "a long body", p.c, api.ErrLong)
	p.Latest()
	p.Give([][]byte{make([]byte, 1<<22)})
	refused(t, "4194304 bytes", p.c, api.ErrResponse)
}

func TestHeadsOfLatest(t *testing.T) { // P17.9: the body is read as a signed head, with its errors
	for _, k := range []int{2, 20} {
		for _, x := range headsToRead(k) {
			p := newPair(t, configOf(k, 2), 5)
			p.Latest()
			p.Give([][]byte{ok(x.message)})
			refused(t, x.what, p.c, x.e)
			if moved := p.c.Head().Size > 0; moved != (x.e == api.OK && x.what != "of no records") || len(p.c.Facts()) == 1 != moved {
				t.Errorf("%s: Head %+v, %d facts", x.what, p.c.Head(), len(p.c.Facts()))
			}
		}
		p := newPair(t, configOf(k, 2), 5)
		p.Latest()
		p.Give([][]byte{ok("")})
		refused(t, "no body", p.c, api.ErrNote)
	}
}

func TestHeadsOfLookups(t *testing.T) { // P17.9: what is no note is ErrBody there; all else as of a latest; of no records ErrIdRange
	path, version := keyOf(0)
	for _, k := range []int{2, 20} {
		for _, x := range headsToRead(k) {
			p := newPair(t, configOf(k, 2), 5)
			p.Lookup(path, version)
			p.Give([][]byte{ok("0\n" + rec(0) + "\n" + x.message)})
			switch {
			case x.e == api.ErrNote || x.e == api.ErrLong:
				refused(t, x.what, p.c, api.ErrBody)
			case x.what == "of no records":
				refused(t, x.what, p.c, api.ErrIdRange)
			case x.e == api.OK:
				if len(p.Wants()) == 0 {
					t.Errorf("%s: wants nothing, %d", x.what, int(p.c.Result().Err))
				}
			default:
				refused(t, x.what, p.c, x.e)
			}
		}
	}
}

func TestErrorsOfLookupsInOrder(t *testing.T) { // P17.9, P0.1: ErrBody, ErrOther, the head's, ErrIdRange, ErrFork; each behind those ahead of it
	b, fork := newBook(0, 2, recs(0, 5)...), newBook(0, 2, recs(0, 5, 7)...)
	stranger, _ := keysOf(origin, 2)
	path, version := keyOf(1)
	far := signHead(b.signedBy(b.signer, "other").head(3), b.signer)
	for _, x := range []struct {
		what, body string
		e          api.Errno
	}{
		{"no bytes", "", api.ErrBody}, {"no number", "x" + b.body(1, 3), api.ErrBody}, {"a zero ahead", "0" + b.body(1, 3), api.ErrBody}, {"a number above all", "281474976710656\n" + rec(1) + "\n" + b.note(3), api.ErrBody}, {"a number below 0", "-" + b.body(1, 3), api.ErrBody},
		{"no record", "1\nx\n\n" + b.note(3), api.ErrBody}, {"no empty line", "1\n" + rec(1) + b.note(3), api.ErrBody}, {"cut", b.body(1, 3)[:len(b.body(1, 3))-1], api.ErrBody}, {"the head alone", b.note(3), api.ErrBody},
		{"another record and no note", "1\n" + rec(2) + "\nx", api.ErrBody},
		{"another record", b.body(2, 3), api.ErrOther}, {"another record, not signed", b.signedBy(stranger, origin).body(2, 3), api.ErrOther}, {"another version", "1\n" + named(path, "v1.0.0-RC2", 1) + "\n" + b.note(3), api.ErrOther}, {"another path", "1\n" + named(path+"0", version, 1) + "\n" + b.note(3), api.ErrOther}, {"another path in capitals", "1\n" + named(strings.ToLower(path), version, 1) + "\n" + b.note(3), api.ErrOther}, {"another record at an id beyond", "9\n" + rec(2) + "\n" + b.note(3), api.ErrOther},
		{"not signed, beyond", "9\n" + rec(1) + "\n" + b.signedBy(stranger, origin).note(3), api.ErrUnsigned}, {"another origin, beyond", "9\n" + rec(1) + "\n" + far, api.ErrOrigin}, {"two empty lines", "1\n" + rec(1) + "\n\n" + b.note(3), api.ErrSignature},
		{"at the size", "3\n" + rec(1) + "\n" + b.note(3), api.ErrIdRange}, {"beyond it", "281474976710655\n" + rec(1) + "\n" + b.note(3), api.ErrIdRange}, {"of no records", "0\n" + rec(1) + "\n" + b.note(0), api.ErrIdRange},
		{"a fork, at the size", "4\n" + rec(1) + "\n" + fork.note(4), api.ErrIdRange},
	} {
		for _, n := range []int{0, 1, 3, 4} {
			p := newPair(t, configOf(0, 2), 9)
			p.Merge(b.note(n))
			p.Lookup(path, version)
			p.Give([][]byte{ok(x.body)})
			refused(t, x.what, p.c, x.e)
		}
	}
	p := newPair(t, configOf(0, 2), 9)
	p.Merge(b.note(4))
	p.Lookup(path, version)
	p.Give([][]byte{ok(fork.body(1, 4))})
	results(t, "a fork", p.c, client.Result{Err: api.ErrFork, Fork: client.Fork{Small: []byte(b.note(4)), Great: []byte(fork.note(4)), Root: fork.root(4)}})
}

func TestAnotherSumIsNotOther(t *testing.T) { // P17.9: the key alone is held against what was asked; the sums are the tree's matter
	b := newBook(0, 2, recs(0, 5)...)
	p := newPair(t, configOf(0, 2), 9)
	path, version := keyOf(1)
	p.Lookup(path, version)
	p.Give([][]byte{ok("1\n" + rec(1, 5) + "\n" + b.note(5))})
	rounds(p, b, 5)
	refused(t, "another sum", p.c, api.ErrInclusion)
}

func TestNotesAreKeptAsTheyCame(t *testing.T) { // P17.2, P17.9: with signatures of others too; of a head of the trusted size the first stays
	b := newBook(0, 2, recs(0, 5)...)
	stranger, _ := keysOf("witness", 2)
	many := signHead(b.head(3), stranger, b.signer)
	p := newPair(t, configOf(0, 2), 9)
	p.Merge(many)
	p.Merge(b.note(3))
	p.Latest()
	rounds(p, b, 3)
	if string(p.c.Note()) != many || string(p.f.Head()) != many || len(p.c.Facts()) != 1 || string(p.c.Facts()[0].Note) != many {
		t.Errorf("Note = %q", p.c.Note())
	}
	p.Merge(b.note(5))
	rounds(p, b, 5)
	if n, e := note.Open(p.c.Facts()[1].Note, []string{p.conf.Verifier}); e != api.OK || len(n.Good) != 1 || p.c.Head() != b.head(5) {
		t.Errorf("Moved carries %q", p.c.Facts()[1].Note)
	}
}
