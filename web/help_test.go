package web_test

import (
	"bytes"
	"slices"
	"strings"
	"testing"

	"ledger/api"
	"ledger/web"
)

// wire: a vertical bar stands for a line's end of two bytes, a caret for one of one byte.
func wire(s string) []byte {
	return []byte(strings.NewReplacer("|", "\r\n", "^", "\n").Replace(s))
}

func sameRequest(a, b web.Request) bool {
	return a.Method == b.Method && a.Target == b.Target && a.Minor == b.Minor && slices.Equal(a.Fields, b.Fields) && bytes.Equal(a.Body, b.Body) && a.Close == b.Close
}

func sameResponse(a, b web.Response) bool {
	return a.Status == b.Status && a.Minor == b.Minor && slices.Equal(a.Fields, b.Fields) && bytes.Equal(a.Body, b.Body) && a.Close == b.Close
}

// requestAsTold: ParseRequest, against the chapter's words; what is right is answered.
func requestAsTold(t *testing.T, b []byte) (web.Request, int, api.Errno) {
	t.Helper()
	want, size, e := trueRequest(b)
	if got, n, f := web.ParseRequest(b); !sameRequest(got, want) || n != size || f != e {
		t.Errorf("ParseRequest(%.200q) = %.200q, %d, %d, want %.200q, %d, %d", b, printed(got), n, int(f), printed(want), size, int(e))
	}
	return want, size, e
}

// responseAsTold: likewise; told: does the head tell the body's length?
func responseAsTold(t *testing.T, b []byte) (size int, told bool, e api.Errno) {
	t.Helper()
	want, size, told, e := trueResponse(b)
	if got, n, f := web.ParseResponse(b); !sameResponse(got, want) || n != size || f != e {
		t.Errorf("ParseResponse(%.200q) = %.200q, %d, %d, want %.200q, %d, %d", b, printed(got), n, int(f), printed(want), size, int(e))
	}
	return size, told, e
}

func unchunkAsTold(t *testing.T, s string) (size int, e api.Errno) {
	t.Helper()
	want, size, e := trueUnchunk(s)
	if got, n, f := web.Unchunk([]byte(s)); string(got) != want || n != size || f != e {
		t.Errorf("Unchunk(%.100q) = %.100q, %d, %d, want %.100q, %d, %d", s, got, n, int(f), want, size, int(e))
	}
	return size, e
}

// refuses: ParseRequest, with that error and nothing else.
func refuses(t *testing.T, in string, want api.Errno) {
	t.Helper()
	if r, n, e := web.ParseRequest(wire(in)); e != want || n != 0 || !sameRequest(r, web.Request{}) {
		t.Errorf("ParseRequest(%.100q) = %.100q, %d, %d, want %d", in, printed(r), n, int(e), int(want))
	}
}

// refusesResponse: likewise.
func refusesResponse(t *testing.T, in string, want api.Errno) {
	t.Helper()
	if r, n, e := web.ParseResponse(wire(in)); e != want || n != 0 || !sameResponse(r, web.Response{}) {
		t.Errorf("ParseResponse(%.100q) = %.100q, %d, %d, want %d", in, printed(r), n, int(e), int(want))
	}
}

// takes: ParseRequest, all but a tail of the bytes.
func takes(t *testing.T, in string, tail int) web.Request {
	t.Helper()
	r, n, e := web.ParseRequest(wire(in))
	if e != api.OK || n != len(wire(in))-tail {
		t.Errorf("ParseRequest(%.100q): %d bytes, %d, want all but %d", in, n, int(e), tail)
	}
	return r
}

// takesResponse: likewise.
func takesResponse(t *testing.T, in string, tail int) web.Response {
	t.Helper()
	r, n, e := web.ParseResponse(wire(in))
	if e != api.OK || n != len(wire(in))-tail {
		t.Errorf("ParseResponse(%.100q): %d bytes, %d, want all but %d", in, n, int(e), tail)
	}
	return r
}

// edits: the text with each byte gone, replaced by each of the pieces, and with each of them put in ahead of it or at the end.
func edits(s string, pieces ...string) []string {
	var l []string
	for i := range len(s) + 1 {
		for _, piece := range pieces {
			l = append(l, s[:i]+piece+s[i:])
			if i < len(s) {
				l = append(l, s[:i]+piece+s[i+1:])
			}
		}
		if i < len(s) {
			l = append(l, s[:i]+s[i+1:])
		}
	}
	return l
}

// eachOf: every text of at most that many of the pieces.
func eachOf(most int, pieces ...string) []string {
	all, layer := []string{""}, []string{""}
	for range most {
		var next []string
		for _, s := range layer {
			for _, piece := range pieces {
				next = append(next, s+piece)
			}
		}
		all, layer = append(all, next...), next
	}
	return all
}

// oddBytes: of each kind that the chapter tells apart.
func oddBytes() []string {
	return []string{"\x00", "\t", "\n", "\r", " ", "!", "#", "%", "(", "+", ",", "-", ".", "/", "0", "1", "9", ":", ";", "?", "@", "A", "\\", "^", "a", "g", "|", "\x7f", "\x80", "\xff", "\r\n"}
}

// goodRequests: as wire texts.
func goodRequests() []string {
	return []string{
		"GET / HTTP/1.1|Host: a.com||",
		"GET / HTTP/1.0||",
		"OPTIONS * HTTP/1.1^hOST: [::1]:80^A: \t b c \t^a:^^",
		"GET / HTTP/1.0|Connection: Keep-Alive||",
		"PUT /%zz? HTTP/1.1|Host:|Connection: a, CLOSE||",
		"POST /x HTTP/1.1|Host: a|Content-Length: 3||abc",
		"POST / HTTP/1.1|Host: a|Transfer-Encoding: Chunked||3;x=y|abc|0||",
		"PATCH / HTTP/1.1^transfer-encoding:chunked^host:b^^01^x^a;^0123456789^00^^",
		"HEAD http://a/b HTTP/1.1|Host: a|content-length:0||",
		"DELETE / HTTP/1.1|Host: a|Content-Length: \t2\t||\r\n",
	}
}

// goodResponses: likewise.
func goodResponses() []string {
	return []string{
		"HTTP/1.1 200 OK|Content-Length: 2||hi",
		"HTTP/1.1 200||hi",
		"HTTP/1.0 404 ||",
		"HTTP/1.1 204 No Content|Content-Length: 5||",
		"HTTP/1.1 304 x^Transfer-Encoding: z^^",
		"HTTP/1.1 100 Continue||",
		"HTTP/1.1 599 \xe9\tx|Transfer-Encoding: chunked||1|a|0||",
		"HTTP/1.0 500 a  b |Connection: keep-alive|content-Length: 1||\x00",
		"HTTP/1.1 301 Moved Permanently|Connection: close|Content-Length: 0||",
	}
}
