package web_test

import (
	"bytes"
	"fmt"
	"math/rand"
	"slices"
	"strings"
	"sync"
	"testing"

	"ledger/api"
	"ledger/web"
)

// roomy: the items with room behind them, which an append would fill, and all of it.
func roomy[T any](items []T, rest ...T) (given, all []T) {
	all = slices.Concat(items, rest)
	return all[:len(items)], all
}

// spoil: writes over a list and the room behind it.
func spoil[T any](list []T, with T) {
	list = list[:cap(list)]
	for i := range list {
		list[i] = with
	}
}

// spoilMessages: writes over all bytes and fields of the messages.
func spoilMessages(a web.Request, b web.Response) {
	spoil(a.Body, '#')
	spoil(b.Body, '#')
	spoil(a.Fields, web.Field{Name: "spoilt", Value: "spoilt"})
	spoil(b.Fields, web.Field{Name: "spoilt", Value: "spoilt"})
}

func TestReadBytesStayAsTheyAre(t *testing.T) { // P14.13, P0.2: what is read, the room behind it, and what was told of it
	for _, in := range slices.Concat(goodRequests(), goodResponses(), []string{"3|abc|0||", "x", ""}) {
		given, all := roomy(wire(in), []byte("\r\nsome more bytes 0123456789")...)
		before := bytes.Clone(all)
		a, _, _ := web.ParseRequest(given)
		b, _, _ := web.ParseResponse(given)
		c, _, _ := web.Unchunk(given)
		d, _ := web.Chunked(given, 3)
		if !bytes.Equal(all, before) {
			t.Fatalf("the bytes of %q are changed", in)
		}
		words := printed(a) + printed(b) + string(c) + string(d)
		kept := strings.Clone(words)
		spoil(all, '#')
		if again := printed(a) + printed(b) + string(c) + string(d); again != kept {
			t.Errorf("%q: what was told changes with the bytes", in)
		}
	}
}

func TestToldMessagesAreNew(t *testing.T) { // P14.13, P0.2: two answers, and an answer and the bytes
	for _, in := range slices.Concat(goodRequests(), goodResponses()) {
		b := wire(in)
		first, _, _ := web.ParseRequest(b)
		second, _, _ := web.ParseRequest(b)
		third, _, _ := web.ParseResponse(b)
		fourth, _, _ := web.ParseResponse(b)
		words := printed(second) + printed(fourth)
		spoilMessages(first, third)
		if printed(second)+printed(fourth) != words || !bytes.Equal(b, wire(in)) {
			t.Errorf("%q: two answers, or an answer and the bytes, share memory", in)
		}
	}
}

func TestToldBytesAreNew(t *testing.T) { // P14.13, P0.2
	for name, call := range map[string]func([]byte) []byte{
		"Unchunk": func(b []byte) []byte {
			c, _, _ := web.Unchunk(slices.Concat([]byte("3\n"), b, []byte("\n0\n\n")))
			return c
		},
		"Chunked": func(b []byte) []byte { c, _ := web.Chunked(b, 2); return c },
		"FormatRequest": func(b []byte) []byte {
			c, _ := web.FormatRequest(web.Request{Method: "GET", Target: "/", Body: b})
			return c
		},
		"FormatResponse": func(b []byte) []byte { c, _ := web.FormatResponse(web.Response{Status: 200, Body: b}); return c },
	} {
		given, all := roomy([]byte("abc"), []byte("behind")...)
		first, second := call(given), call(given)
		want := bytes.Clone(second)
		spoil(first, '#')
		if string(all) != "abcbehind" || !bytes.Equal(second, want) {
			t.Errorf("%s: an answer shares memory with the bytes or with another answer", name)
		}
		spoil(all, '#')
		if !bytes.Equal(second, want) {
			t.Errorf("%s: the answer goes on sharing memory with the bytes", name)
		}
	}
}

func TestPrintedMessagesStayAsTheyAre(t *testing.T) { // P14.13, P0.2: their lists and the room behind these
	fields := []web.Field{{Name: "Host", Value: " a "}, {Name: "content-length", Value: "9"}, {Name: "b", Value: "\tc"}}
	for n := range len(fields) + 1 {
		for _, body := range []string{"", "xy"} {
			list, allFields := roomy(fields[:n], web.Field{Name: "behind"}, web.Field{Name: "further behind"})
			given, allBytes := roomy([]byte(body), []byte("behind")...)
			wantFields, wantBytes := slices.Clone(allFields), bytes.Clone(allBytes)
			web.FormatRequest(web.Request{Method: "GET", Target: "/", Fields: list, Body: given})
			web.FormatResponse(web.Response{Status: 200, Fields: list, Body: given})
			web.Value(list, "b")
			if !slices.Equal(allFields, wantFields) || !bytes.Equal(allBytes, wantBytes) {
				t.Errorf("with %d fields and %q: a list or the room behind it is changed", n, body)
			}
		}
	}
}

func TestNilAndEmptyAreOne(t *testing.T) { // P0.1
	for _, none := range [][]byte{nil, {}} {
		if _, n, e := web.ParseRequest(none); n != 0 || e != api.ErrShort {
			t.Errorf("ParseRequest of none: %d, %d", n, int(e))
		}
		if _, n, e := web.ParseResponse(none); n != 0 || e != api.ErrShort {
			t.Errorf("ParseResponse of none: %d, %d", n, int(e))
		}
		if b, n, e := web.Unchunk(none); len(b) != 0 || n != 0 || e != api.ErrShort {
			t.Errorf("Unchunk of none: %d, %d", n, int(e))
		}
		if b, e := web.Chunked(none, 1); string(b) != "0\r\n\r\n" || e != api.OK {
			t.Errorf("Chunked of none: %q, %d", b, int(e))
		}
		for _, fields := range [][]web.Field{nil, {}} {
			if b, e := web.FormatRequest(web.Request{Method: "GET", Target: "/", Fields: fields, Body: none}); string(b) != "GET / HTTP/1.0\r\n\r\n" || e != api.OK {
				t.Errorf("FormatRequest with none: %q, %d", b, int(e))
			}
			if b, e := web.FormatResponse(web.Response{Status: 200, Fields: fields, Body: none}); string(b) != "HTTP/1.0 200 OK\r\nContent-Length: 0\r\n\r\n" || e != api.OK {
				t.Errorf("FormatResponse with none: %q, %d", b, int(e))
			}
		}
	}
	if b, e := web.FormatRequest(web.Request{}); len(b) != 0 || e != api.ErrStart {
		t.Errorf("FormatRequest of the zero value: %q, %d", b, int(e))
	}
	if b, e := web.FormatResponse(web.Response{}); len(b) != 0 || e != api.ErrStatus {
		t.Errorf("FormatResponse of the zero value: %q, %d", b, int(e))
	}
}

// answers: of one round of calls, in words.
func answers(texts []string) string {
	var out []any
	note := func(values ...any) { out = append(out, values...) }
	for i, s := range texts {
		other := texts[(i*7+3)%len(texts)]
		a, n, e := web.ParseRequest([]byte(s))
		note(a, n, e)
		b, n, e := web.ParseResponse([]byte(s))
		note(b, n, e)
		c, n, e := web.Unchunk([]byte(s))
		note(c, n, e)
		c, e = web.Chunked([]byte(s), i)
		note(c, e)
		c, e = web.FormatRequest(web.Request{Method: "PUT", Target: "/" + s, Fields: []web.Field{{Name: s, Value: other}}, Body: []byte(other)})
		note(c, e)
		c, e = web.FormatResponse(web.Response{Status: 7 * i, Fields: append(a.Fields, web.Field{Name: "a", Value: s}), Body: []byte(other)})
		note(c, e)
		path, query, e := web.Path(s)
		note(path, query, e)
		path, e = web.Escape("/" + s)
		note(path, e)
		value, ok := web.Value(a.Fields, "host")
		note(value, ok, web.Reason(i), web.StatusOf(e))
	}
	return fmt.Sprint(out...)
}

func everyText() []string {
	var l []string
	for _, in := range slices.Concat(goodRequests(), goodResponses(), []string{"", "/a%20b?c", "3|abc|0||", "x", "a", strings.Repeat("y", 9000), "GET / HTTP/1.1||", "GET / HTTP/1.1|a b||"}) {
		l = append(l, string(wire(in)))
	}
	return l
}

func TestSameCallsSameAnswers(t *testing.T) { // P14.13, P0.2: again, in another order, and side by side
	texts := everyText()
	want := answers(texts)
	got := make([]string, 8)
	var all sync.WaitGroup
	for i := range got {
		all.Go(func() {
			backward := slices.Clone(texts)
			slices.Reverse(backward)
			answers(backward)
			got[i] = answers(texts)
		})
	}
	all.Wait()
	for _, words := range append(got, answers(texts)) {
		if words != want {
			t.Error("the same calls give other answers")
		}
	}
}

func TestAnyBytes(t *testing.T) { // P0.1, P14.1, P14.2, P14.13: every call ends, none panics
	chance := rand.New(rand.NewSource(14))
	pieces := append(oddBytes(), "GET ", "HTTP/1.", "HTTP/1.1 200", "Host: a\r\n", "Content-Length: ", "Transfer-Encoding: chunked\r\n", "Connection: close\n", "\r\n\r\n", "\n\n", "12", "0\r\n", "%41", "/")
	for range 40000 {
		s := ""
		for range chance.Intn(12) {
			s += pieces[chance.Intn(len(pieces))]
		}
		requestAsTold(t, []byte(s))
		requestAsTold(t, []byte("GET / HTTP/1.0\n"+s))
		responseAsTold(t, []byte(s))
		responseAsTold(t, []byte("HTTP/1.1 200\n"+s))
		unchunkAsTold(t, s)
		pathAsTold(t, "/"+s)
		escapeAsTold(t, "/"+s)
	}
}
