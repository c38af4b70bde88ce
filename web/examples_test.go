package web_test

import (
	"fmt"
	"slices"
	"strings"
	"testing"

	"ledger/api"
	"ledger/web"
)

// printed: a message in words.
func printed(message any) string { return fmt.Sprintf("%+v", message) }

func TestRequestExamples(t *testing.T) { // P14.1: examples 1 to 5
	want := web.Request{Method: "GET", Target: "/", Minor: 1, Fields: []web.Field{{Name: "Host", Value: "a.com"}}}
	for in, size := range map[string]int{"GET / HTTP/1.1|Host: a.com||": 31, "GET / HTTP/1.1^Host: a.com^^": 28} {
		if r, n, e := web.ParseRequest(wire(in)); !sameRequest(r, want) || n != size || e != api.OK {
			t.Errorf("ParseRequest(%q) = %q, %d, %d", in, printed(r), n, int(e))
		}
	}
	for _, in := range []string{"GET / HTTP/1.1|", "GET / HTTP/1.1|Host: a|", "", "GET", "x|y|"} {
		refuses(t, in, api.ErrShort)
	}
	for _, in := range []string{"x|y||", "GET  / HTTP/1.1||", "GET / HTTP/1.1 ||", "|GET / HTTP/1.1||", "G@T / HTTP/3.1||"} {
		refuses(t, in, api.ErrStart)
	}
	refuses(t, "Get / HTTP/1.1||", api.ErrMethod)
	refuses(t, "GET / HTTP/2.0||", api.ErrProtocol)
	for _, in := range []string{"GET / HTTP/1.1||", "GET / HTTP/1.1|Host: a|host: a||", "GET / HTTP/1.1|Host: a/b||"} {
		refuses(t, in, api.ErrHost)
	}
	for _, in := range []string{"GET / HTTP/1.1|Host : a||", "GET / HTTP/1.1|Host: a| b: c||"} {
		refuses(t, in, api.ErrField)
	}
	for in, closing := range map[string]bool{"GET / HTTP/1.0||": true, "GET / HTTP/1.0|Connection: Keep-Alive||": false, "GET / HTTP/1.1|Host:|Connection: a, CLOSE||": true} {
		if r := takes(t, in, 0); r.Close != closing {
			t.Errorf("ParseRequest(%q): Close is %v", in, r.Close)
		}
	}
}

func TestBodyExamples(t *testing.T) { // P14.1: examples 6 and 7
	const head = "POST /x HTTP/1.1|Host: a|"
	for in, tail := range map[string]int{"abcdef": 3, "abc": 0} {
		if r := takes(t, head+"Content-Length: 3||"+in, tail); string(r.Body) != "abc" || len(r.Fields) != 2 {
			t.Errorf("a body of three bytes, of %q: %q", in, printed(r))
		}
	}
	if _, n, _ := web.ParseRequest(wire(head + "Content-Length: 3||abcdef")); n != 51 {
		t.Errorf("51 bytes, said to be %d", n)
	}
	refuses(t, head+"Content-Length: 3||ab", api.ErrShort)
	for _, line := range []string{"Content-Length: 03", "Content-Length: +3", "Content-Length:", "Content-Length: 3|Content-Length: 3"} {
		refuses(t, head+line+"||abc", api.ErrField)
	}
	for _, number := range []string{"1048577", "99999999999999999999"} {
		refuses(t, head+"Content-Length: "+number+"||abc", api.ErrLength)
	}
	const coded = "POST / HTTP/1.1|Host: a|Transfer-Encoding: Chunked|"
	if r := takes(t, coded+"|3;x=y|abc|0||", 0); string(r.Body) != "abc" {
		t.Errorf("the body of a chunk: %q", r.Body)
	}
	refuses(t, coded+"|3|abcd|0||", api.ErrChunk)
	refuses(t, coded+"|3|abc|0|X: y||", api.ErrChunk)
	refuses(t, coded+"|3|ab", api.ErrShort)
	refuses(t, coded+"Content-Length: 3||3|abc|0||", api.ErrField)
	refuses(t, "POST / HTTP/1.1|Host: a|Transfer-Encoding: gzip, chunked||3|abc|0||", api.ErrField)
	refuses(t, "POST / HTTP/1.0|Host: a|Transfer-Encoding: Chunked||3|abc|0||", api.ErrField)
}

func TestFirstLineExamples(t *testing.T) { // P14.1: example 8
	line := "GET /" + strings.Repeat("a", 8000-14) + " HTTP/1.0"
	takes(t, line+"||", 0)
	refuses(t, "G"+line+"||", api.ErrTarget)
	refuses(t, strings.Repeat("a", 8001), api.ErrShort)
	refuses(t, strings.Repeat("a", 8002), api.ErrTarget)
}

func TestResponseExamples(t *testing.T) { // P14.1: example 9
	for in, want := range map[string]web.Response{
		"HTTP/1.1 200 OK|Content-Length: 2||hi":            {Status: 200, Minor: 1, Fields: []web.Field{{Name: "Content-Length", Value: "2"}}, Body: []byte("hi")},
		"HTTP/1.1 200||hi":                                 {Status: 200, Minor: 1, Body: []byte("hi"), Close: true},
		"HTTP/1.1 204 No Content|Content-Length: 5||":      {Status: 204, Minor: 1, Fields: []web.Field{{Name: "Content-Length", Value: "5"}}},
		"HTTP/1.0 304 x|Connection: \tkeep-ALIVE\t,x|a:||": {Status: 304, Fields: []web.Field{{Name: "Connection", Value: "keep-ALIVE\t,x"}, {Name: "a"}}},
	} {
		if r := takesResponse(t, in, 0); !sameResponse(r, want) {
			t.Errorf("ParseResponse(%q) = %q", in, printed(r))
		}
	}
	refusesResponse(t, "HTTP/1.1 99 x||", api.ErrStart)
	refusesResponse(t, "HTTP/1.1 099 x||", api.ErrStatus)
	refusesResponse(t, "HTTP/1.1 600 x||", api.ErrStatus)
	refusesResponse(t, "HTTP/2.0 600 x||", api.ErrProtocol)
}

func TestPrintedExamples(t *testing.T) { // P14.4, P14.5: examples 10 to 12
	host := web.Field{Name: "Host", Value: "a.com"}
	plain := web.Request{Method: "GET", Target: "/latest", Minor: 1, Fields: []web.Field{host}}
	full := plain
	full.Fields, full.Body = []web.Field{host, {Name: "content-length", Value: "9"}}, []byte("xy")
	for want, r := range map[string]web.Request{"GET /latest HTTP/1.1|Host: a.com||": plain, "GET /latest HTTP/1.1|Host: a.com|Content-Length: 2||xy": full} {
		if b, e := web.FormatRequest(r); string(b) != string(wire(want)) || e != api.OK {
			t.Errorf("FormatRequest: %q, %d, want %q", b, int(e), want)
		}
	}
	for want, change := range map[api.Errno]func(*web.Request){
		api.ErrStart:    func(r *web.Request) { r.Target = "/a b" },
		api.ErrField:    func(r *web.Request) { r.Fields = []web.Field{host, {Name: "a", Value: "b\nc"}} },
		api.ErrHost:     func(r *web.Request) { r.Fields = nil },
		api.ErrProtocol: func(r *web.Request) { r.Minor = 2 },
	} {
		r := plain
		change(&r)
		if b, e := web.FormatRequest(r); len(b) != 0 || e != want {
			t.Errorf("FormatRequest(%q): %q, %d, want %d", printed(r), b, int(e), int(want))
		}
	}
	for want, r := range map[string]web.Response{
		"HTTP/1.1 404 Not Found|Content-Length: 2||no":   {Status: 404, Minor: 1, Body: []byte("no")},
		"HTTP/1.1 204 No Content||":                      {Status: 204, Minor: 1},
		"HTTP/1.1 299 Status 299|Content-Length: 0||":    {Status: 299, Minor: 1},
		"HTTP/1.0 304 Not Modified|a: ||":                {Status: 304, Close: true, Fields: []web.Field{{Name: "a", Value: " \t "}}},
		"HTTP/1.0 200 OK|b: c \td|Content-Length: 1||\n": {Status: 200, Fields: []web.Field{{Name: "TRANSFER-encoding", Value: "chunked"}, {Name: "b", Value: "\tc \td"}}, Body: []byte("\n")},
	} {
		if b, e := web.FormatResponse(r); string(b) != string(wire(want)) || e != api.OK {
			t.Errorf("FormatResponse: %q, %d, want %q", b, int(e), want)
		}
	}
	if b, e := web.FormatResponse(web.Response{Status: 204, Minor: 1, Body: []byte("x")}); len(b) != 0 || e != api.ErrLength {
		t.Errorf("FormatResponse of 204 with a body: %q, %d", b, int(e))
	}
}

func TestTargetExamples(t *testing.T) { // P14.10, P14.11: examples 13 and 14
	for in, want := range map[string][]string{"/lookup/a.com/%21x@v1.0.0?q=1": {"/lookup/a.com/!x@v1.0.0", "q=1"}, "/%41+%20": {"/A+ ", ""}, "/?a?b%zz": {"/", "a?b%zz"}} {
		if path, query, e := web.Path(in); !slices.Equal([]string{path, query}, want) || e != api.OK {
			t.Errorf("Path(%q) = %q, %q, %d", in, path, query, int(e))
		}
	}
	for _, in := range []string{"/%2F", "/%0a", "/%g1", "/%4", "/a#b", "/a b", "a", "", "/?a#b"} {
		if path, query, e := web.Path(in); path != "" || query != "" || e != api.ErrTarget {
			t.Errorf("Path(%q) = %q, %q, %d", in, path, query, int(e))
		}
	}
	for in, want := range map[string]string{"/a b%": "/a%20b%25", "/\xc3\xa9": "/%C3%A9"} {
		if s, e := web.Escape(in); s != want || e != api.OK {
			t.Errorf("Escape(%q) = %q, %d", in, s, int(e))
		}
	}
	if s, e := web.Escape("a/b"); s != "" || e != api.ErrTarget {
		t.Errorf("Escape(a/b) = %q, %d", s, int(e))
	}
}

func TestChunkExamples(t *testing.T) { // P14.2, P14.3: examples 15 and 16
	for want, c := range map[string]struct {
		body string
		size int
	}{"2|ab|2|cd|1|e|0||": {"abcde", 2}, "10|0123456789abcdef|1|g|0||": {"0123456789abcdefg", 16}, "0||": {"", 5}} {
		if b, e := web.Chunked([]byte(c.body), c.size); string(b) != string(wire(want)) || e != api.OK {
			t.Errorf("Chunked(%q, %d) = %q, %d", c.body, c.size, b, int(e))
		}
	}
	if b, e := web.Chunked([]byte("a"), 0); len(b) != 0 || e != api.ErrArg {
		t.Errorf("Chunked(a, 0) = %q, %d", b, int(e))
	}
	for _, c := range []struct {
		in, body string
		size     int
		e        api.Errno
	}{
		{"0||x", "", 5, api.OK}, {"A|0123456789|0||", "0123456789", 20, api.OK}, {"a^0123456789^0^^", "0123456789", 16, api.OK}, {"00000000||", "", 12, api.OK},
		{"", "", 0, api.ErrShort}, {"5", "", 0, api.ErrShort}, {"5|", "", 0, api.ErrShort}, {"0|", "", 0, api.ErrShort},
		{"|", "", 0, api.ErrChunk}, {"g|", "", 0, api.ErrChunk}, {"123456789|", "", 0, api.ErrChunk}, {"100001|", "", 0, api.ErrLong},
	} {
		if b, n, e := web.Unchunk(wire(c.in)); string(b) != c.body || n != c.size || e != c.e {
			t.Errorf("Unchunk(%q) = %q, %d, %d", c.in, b, n, int(e))
		}
	}
}
