package web_test

import (
	"strings"
	"testing"

	"ledger/api"
	"ledger/web"
)

func TestNearbyMessages(t *testing.T) { // P14.1: each byte of right messages gone, replaced or with another ahead of it
	for _, in := range goodRequests() {
		takes(t, in, 0)
		for _, near := range edits(string(wire(in)), oddBytes()...) {
			requestAsTold(t, []byte(near))
		}
	}
	for _, in := range goodResponses() {
		takesResponse(t, in, 0)
		for _, near := range edits(string(wire(in)), oddBytes()...) {
			responseAsTold(t, []byte(near))
		}
	}
}

func TestEachByteAtEachPlace(t *testing.T) { // P14.1: in all parts of a message, by their rules
	for c := range 256 {
		piece := string([]byte{byte(c)})
		for _, form := range []string{
			"?ET / HTTP/1.0||", "G?T / HTTP/1.0||", "GET? / HTTP/1.0||", "GET ? HTTP/1.0||", "GET /?a HTTP/1.0||", "GET / ?TTP/1.0||", "GET / HTTP/?.0||", "GET / HTTP/1?0||", "GET / HTTP/1.?||", "GET / HTTP/1.0?||", "GET?/ HTTP/1.0||", "GET /?HTTP/1.0||",
			"GET / HTTP/1.0|?:||", "GET / HTTP/1.0|a?:||", "GET / HTTP/1.0|a?b||", "GET / HTTP/1.0|a:?||", "GET / HTTP/1.0|a:b?c||", "GET / HTTP/1.0|a:b?||", "GET / HTTP/1.0|a:b|?", "GET / HTTP/1.0|a:b|?^", "GET / HTTP/1.0|a:b|?|", "GET / HTTP/1.0?^", "?^^", "?",
			"GET / HTTP/1.0|Host:?||", "GET / HTTP/1.0|Host:a?b||", "GET / HTTP/1.0|h?st: /||", "GET / HTTP/1.0|?ost: /||",
			"GET / HTTP/1.0|Content-Length:?||0123456789", "GET / HTTP/1.0|Content-Length:1?||0123456789", "GET / HTTP/1.0|Content?Length: x||",
			"GET / HTTP/1.1|Host:|Transfer-Encoding:chunked?||0||", "GET / HTTP/1.1|Host:|Transfer-Encoding:?hunked||0||", "GET / HTTP/1.1|Host:|Transfer?Encoding: x||",
			"GET / HTTP/1.1|Host:|Connection:?close||", "GET / HTTP/1.1|Host:|Connection:close?||", "GET / HTTP/1.1|Host:|Connection:x?close||", "GET / HTTP/1.1|Host:|Connection:clo?e||", "GET / HTTP/1.0|Connection:?eep-alive||", "GET / HTTP/1.0|Connection: keep?alive||",
		} {
			requestAsTold(t, []byte(strings.Replace(string(wire(form)), "?", piece, 1)))
		}
		for _, form := range []string{
			"?TTP/1.1 200||", "HTTP?1.1 200||", "HTTP/?.1 200||", "HTTP/1?1 200||", "HTTP/1.? 200||", "HTTP/1.1?200||", "HTTP/1.1 ?00||", "HTTP/1.1 2?0||", "HTTP/1.1 20?||", "HTTP/1.1 200?||", "HTTP/1.1 200?OK||", "HTTP/1.1 200 ?||", "HTTP/1.1 200 O?K||",
			"HTTP/1.1 200|Host:?||", "HTTP/1.1 200|Content-Length:?||01234", "HTTP/1.0 200|Connection:?||01234",
		} {
			responseAsTold(t, []byte(strings.Replace(string(wire(form)), "?", piece, 1)))
		}
	}
}

// fieldLines: lines that say something of the message, rightly and wrongly.
func fieldLines() []string {
	return []string{
		"Host: a|", "host:^", "HOST: a/b|", "Content-Length: 3|", "content-length:0|", "Content-Length: 03|", "Content-Length: 1048577|", "Content-Length: x^",
		"Transfer-Encoding: chunked|", "TRANSFER-ENCODING:\tCHUNKED |", "Transfer-Encoding: gzip, chunked|", "Connection: close|", "connection: x,\tKeep-Alive |", "Connection: closed, keep|", "X-Y: z|", "no field|",
	}
}

// fieldSets: at most two of the lines, in each order, and three that tell of lengths and hosts.
func fieldSets() []string {
	all := eachOf(2, fieldLines()...)
	return append(all, eachOf(3, "Host: a|", "Content-Length: 3|", "Transfer-Encoding: chunked|", "Connection: close|", "Connection: keep-alive|")...)
}

func bodies() []string {
	return []string{"", "abc", "abcd", "ab", "0||", "3|abc|0||x", "3|abc|0|", "3|abcd|0||", "100001|", "|"}
}

func TestHeadsAndBodies(t *testing.T) { // P14.1: all that the fields say together
	taken := 0
	for _, start := range []string{"POST /a HTTP/1.1|", "POST /a HTTP/1.0|", "BREW /a HTTP/1.1|", "GET / HTTP/1.3|", "GET /|"} {
		for _, fields := range fieldSets() {
			for _, body := range bodies() {
				if _, _, e := requestAsTold(t, wire(start+fields+"|"+body)); e == api.OK {
					taken++
				}
			}
		}
	}
	for _, start := range []string{"HTTP/1.1 200 OK|", "HTTP/1.0 599|", "HTTP/1.1 204 |", "HTTP/1.1 304 |", "HTTP/1.0 199 |", "HTTP/1.1 099 |", "HTTP/1.1 600 |", "HTTP/3.1 200|"} {
		for _, fields := range fieldSets() {
			for _, body := range bodies() {
				if _, _, e := responseAsTold(t, wire(start+fields+"|"+body)); e == api.OK {
					taken++
				}
			}
		}
	}
	if taken < 1000 {
		t.Errorf("%d messages were to be taken: not all was tried", taken)
	}
}

func TestSmallTexts(t *testing.T) { // P14.1, P0.1: lines and ends in every order
	for _, s := range eachOf(6, "\r", "\n", "GET / HTTP/1.0", "a:b", " ", "HTTP/1.0 200") {
		requestAsTold(t, []byte(s))
		responseAsTold(t, []byte(s))
	}
}

func TestMethods(t *testing.T) { // P14.1
	for _, method := range []string{"GET", "HEAD", "POST", "PUT", "DELETE", "CONNECT", "OPTIONS", "TRACE", "PATCH"} {
		if r := takes(t, method+" /x HTTP/1.0||", 0); r.Method != method || r.Target != "/x" {
			t.Errorf("%s: %q", method, printed(r))
		}
		for _, other := range []string{strings.ToLower(method), method[1:], method[:len(method)-1], method + "S", method + method, method + "-"} {
			refuses(t, other+" / HTTP/1.0||", api.ErrMethod)
		}
	}
}

func TestStatuses(t *testing.T) { // P14.1
	for status := range 1000 {
		digits := string([]byte{byte('0' + status/100), byte('0' + status/10%10), byte('0' + status%10)})
		in := "HTTP/1.1 " + digits + " x|Content-Length: 1||a"
		if status < 100 || status > 599 {
			refusesResponse(t, in, api.ErrStatus)
			continue
		}
		tail, body := 0, "a"
		if status < 200 || status == 204 || status == 304 {
			tail, body = 1, ""
		}
		if r := takesResponse(t, in, tail); r.Status != status || string(r.Body) != body || r.Close {
			t.Errorf("status %d: %q", status, printed(r))
		}
	}
}

func TestCaseIsOfLettersAlone(t *testing.T) { // P14.1, P14.8: what UTF-8 folds together, or stands 0x20 apart, is not the same
	for _, word := range []string{"clo\u017fe", "cLO\u017fE", "close\x00"} {
		if r, _, _ := web.ParseRequest([]byte("GET / HTTP/1.1\nHost:\nConnection: " + word + "\n\n")); r.Close {
			t.Errorf("Connection: %q closes", word)
		}
	}
	if r := takes(t, "GET / HTTP/1.0|Connection: \u212aeep-alive||", 0); !r.Close {
		t.Error("a word with the sign of Kelvin keeps a connection")
	}
	refuses(t, "GET / HTTP/1.1|Host:|Transfer-Encoding: chun\u212aed||0||", api.ErrField)
}

// whole: of a message that takes n bytes: each beginning of it is short, and what stands behind it changes nothing.
func whole(t *testing.T, b []byte, want web.Request, n int) {
	t.Helper()
	for i := range n {
		if r, m, e := web.ParseRequest(b[:i]); e != api.ErrShort || m != 0 || !sameRequest(r, web.Request{}) {
			t.Errorf("%.100q, cut at %d: %q, %d, %d", b, i, printed(r), m, int(e))
		}
	}
	for _, tail := range []string{"", "\n", "\r\n", "\r", "x", "0\r\n\r\n", "GET / HTTP/1.0\r\n\r\n", strings.Repeat("y", 20000)} {
		if r, m, e := web.ParseRequest(append(b[:n:n], tail...)); e != api.OK || m != n || !sameRequest(r, want) {
			t.Errorf("%.100q with %.20q behind it: %q, %d, %d", b[:n], tail, printed(r), m, int(e))
		}
	}
}

func TestRequestsAreWholeOrShort(t *testing.T) { // P14.7
	for _, in := range goodRequests() {
		r, n, e := web.ParseRequest(wire(in))
		if e != api.OK {
			t.Fatalf("%q: %d", in, int(e))
		}
		whole(t, wire(in), r, n)
	}
	for _, fields := range fieldSets() {
		for _, body := range bodies() {
			b := wire("POST /a HTTP/1.1|" + fields + "|" + body)
			if r, n, e := web.ParseRequest(b); e == api.OK {
				whole(t, b, r, n)
			}
		}
	}
	long := "GET /" + strings.Repeat("a", 8000-14) + " HTTP/1.1|Host: a|Transfer-Encoding:chunked|x:" + strings.Repeat("y", 16384-42) + "|"
	b := wire(long + "|1;" + strings.Repeat("z", 254) + "|a|0;" + strings.Repeat("z", 254) + "||")
	r, n, e := web.ParseRequest(b)
	if e != api.OK || n != len(b) {
		t.Fatalf("a request of %d bytes: %d, %d", len(b), n, int(e))
	}
	whole(t, b, r, n)
}

func TestResponsesAreWholeOrShort(t *testing.T) { // P14.7: where the head tells the length
	tried := 0
	for _, in := range goodResponses() {
		b := wire(in)
		size, told, e := responseAsTold(t, b)
		if e != api.OK || !told {
			continue
		}
		tried++
		want, _, _ := web.ParseResponse(b)
		for i := range size {
			refusesResponse(t, string(b[:i]), api.ErrShort)
		}
		for _, tail := range []string{"\n", "x", "HTTP/1.1 200||"} {
			if r, n, e := web.ParseResponse(append(b[:size:size], tail...)); e != api.OK || n != size || !sameResponse(r, want) {
				t.Errorf("%q with %q behind it: %q, %d, %d", in, tail, printed(r), n, int(e))
			}
		}
	}
	if tried < 5 {
		t.Errorf("%d responses were tried", tried)
	}
}
