package server_test

import (
	"slices"
	"strconv"
	"strings"
	"testing"

	"ledger/server"
	"ledger/web"
)

// plain: an answer as text, written out as the chapter's examples have it.
func plain(status, more, body string) string {
	return wire("HTTP/1.1 "+status+"|Content-Type: text/plain; charset=utf-8|"+more+"Content-Length: "+strconv.Itoa(len(body))+"||") + body
}

const closing = "Connection: close|"

func TestServeExamples(t *testing.T) { // P15.6: examples 6 to 9
	c := config(8)
	_, s := begun(t, c, three()...)
	head := headOf(c, three())
	one, last := plain("200 OK", "", head), plain("200 OK", closing, head)
	ask := get("/latest")
	serves(t, s, ask, one)
	serves(t, s, ask+ask, one+one)
	serves(t, s, wire("GET /latest HTTP/1.1|Host: a|Connection: close||")+ask, last)
	serves(t, s, wire("POST /latest HTTP/1.1|Host: a|Content-Length: 2||hiGET / HTTP/1.0||"), plain("405 Method Not Allowed", "Allow: GET|", "Method Not Allowed\n")+plain("404 Not Found", closing, "Not Found\n"))
	for _, behind := range []string{"", ask, "x", "\r\n\r\n"} {
		serves(t, s, wire("GET /latest HTTP/1.1||")+behind, plain("400 Bad Request", closing, "Bad Request\n"))
		serves(t, s, wire("GET / HTTP/2.0||")+behind, plain("505 HTTP Version Not Supported", closing, "HTTP Version Not Supported\n"))
		serves(t, s, wire("BREW / HTTP/1.1||")+behind, plain("501 Not Implemented", closing, "Not Implemented\n"))
	}
	for _, cut := range []string{"", "GET", wire("GET /latest HTTP/1.1|Host: a|")} {
		serves(t, s, cut, "")
	}
	serves(t, s, strings.Repeat(ask, 70), strings.Repeat(one, 63)+last)
}

func TestServedTiles(t *testing.T) { // P15.6: octets for a tile that is told, text for every refusal
	c := config(1)
	d, s := begun(t, c, three()...)
	m := modelOf(c, three())
	_, hashes := m.answer("GET", "/tile/1/0/000")
	_, data := m.answer("GET", "/tile/1/data/001.p/1")
	octets := func(more, body string) string {
		return wire("HTTP/1.1 200 OK|Content-Type: application/octet-stream|"+more+"Content-Length: "+strconv.Itoa(len(body))+"||") + body
	}
	serves(t, s, get("/tile/1/0/000")+get("/tile/1/data/001.p/1"), octets("", hashes)+octets("", data))
	serves(t, s, wire("GET /%74ile/1/0/000 HTTP/1.0||"), octets(closing, hashes))
	serves(t, s, get("/tile/1/0/000.p/7")+get("/tile/1/5/000")+get("/tile/1/0/000?x"), plain("400 Bad Request", "", "Bad Request\n")+plain("404 Not Found", "", "Not Found\n")+plain("400 Bad Request", "", "Bad Request\n"))
	serves(t, s, wire("PUT /tile/1/0/000 HTTP/1.0||"), plain("405 Method Not Allowed", "Allow: GET|"+closing, "Method Not Allowed\n"))
	d.Remove("tile/1/0/000")
	serves(t, s, get("/tile/1/0/000")+get("/lookup/a.com@v1.0.0"), plain("500 Internal Server Error", "", "Internal Server Error\n")+plain("200 OK", "", bodyOf(c, three(), 0)))
}

// served: Serve, against the chapter's words.
func served(t *testing.T, s *server.Server, m *model, stream string) {
	t.Helper()
	serves(t, s, stream, m.serve(stream))
}

// someRequests: such as are answered, and such as web refuses for each reason, as wire texts.
func someRequests() []string {
	l := []string{
		"GET /latest HTTP/1.1|Host: a||", "GET /lookup/a.com@v1.0.0 HTTP/1.1^Host: a^^", "GET /tile/1/0/000 HTTP/1.1|Host: a|X: y||", "GET /tile/1/0/009 HTTP/1.1|host:||", "HEAD /latest HTTP/1.1|Host: a||",
		"GET /latest HTTP/1.0|Connection: keep-alive||", "GET /latest HTTP/1.0||", "GET /latest HTTP/1.1|Host: a|Connection: x, Close||", "POST /latest HTTP/1.1|Host: a|Content-Length: 3||GET", "PUT /lookup/ HTTP/1.1|Host: a|Transfer-Encoding: chunked||3|abc|0||",
		"GET /latest HTTP/1.1|Host: a|Content-Length: 5||/tile", "GET * HTTP/1.1|Host: a||", "GET http://a/latest HTTP/1.1|Host: a||", "OPTIONS / HTTP/1.1|Host: a||",
		"BREW /latest HTTP/1.1|Host: a||", "GET /latest HTTP/3.0|Host: a||", "GET /latest HTTP/1.1||", "GET /latest HTTP/1.1|Host : a||", "GET /latest|Host: a||", "POST / HTTP/1.1|Host: a|Content-Length: 1048577||", "POST / HTTP/1.1|Host: a|Transfer-Encoding: chunked||x|", "||", "GET /latest HTTP/1.1|Host: a|", "POST / HTTP/1.1|Host: a|Content-Length: 9||abc",
	}
	for i := range l {
		l[i] = wire(l[i])
	}
	return l
}

func TestServeAsTold(t *testing.T) { // P15.6, P15.8: each two and three of the requests behind one another, and each edit of them
	c := config(1)
	_, s := begun(t, c, three()...)
	m := modelOf(c, three())
	all := someRequests()
	for _, a := range all {
		for _, b := range all {
			served(t, s, m, a+b)
			served(t, s, m, all[0]+a+b+all[2])
		}
	}
	for _, a := range all {
		for _, edited := range edits(a, "\r", "\n", "\r\n", " ", "/", ":", "0", "9", "x", "\x00", "\xff", ",") {
			served(t, s, m, edited+all[0])
			served(t, s, m, all[4]+edited)
		}
	}
}

func TestEveryCut(t *testing.T) { // P15.6, P15.8: what is cut gets no answer; what is whole ahead of it gets its own
	c := config(1)
	_, s := begun(t, c, three()...)
	m := modelOf(c, three())
	requests := []string{get("/latest"), wire("POST /latest HTTP/1.1|Host: a|Content-Length: 4||GET "), get("/tile/1/0/000"), wire("PUT / HTTP/1.1^Host: b^Transfer-Encoding: chunked^^3^abc^0^^"), get("/lookup/a.com/!x@v1.0.0-!r!c1")}
	whole, want := "", ""
	for _, r := range requests {
		for i := range len(r) {
			serves(t, s, whole+r[:i], want)
		}
		whole += r
		want += m.serve(r)
		serves(t, s, whole, want)
	}
}

func TestRefusedRequests(t *testing.T) { // P15.6: the status that web tells, with its words; it closes, and what stands behind is not looked at
	c := config(1)
	_, s := begun(t, c, three()...)
	one := plain("200 OK", "", headOf(c, three()))
	for status, requests := range map[string][]string{
		"400 Bad Request":                     {"x||", "||", "GET /latest HTTP/1.1||", "GET /latest HTTP/1.1|Host: a|Host: a||", "GET / HTTP/1.1|Host: a|b c: d||", "POST / HTTP/1.1|Host: a|Content-Length: 01||", "POST / HTTP/1.1|Host: a|Transfer-Encoding: chunked||z|"},
		"413 Content Too Large":               {"POST / HTTP/1.1|Host: a|Content-Length: 1048577||", "POST / HTTP/1.1|Host: a|Transfer-Encoding: chunked||100001|", "GET /latest HTTP/1.1|Host: a|Content-Length: 99999999999999999999||"},
		"414 URI Too Long":                    {"GET /" + strings.Repeat("a", 8000) + " HTTP/1.1|Host: a||", strings.Repeat("a", 8002)},
		"431 Request Header Fields Too Large": {"GET / HTTP/1.1|Host: a|" + strings.Repeat("a: b|", 64) + "|", "GET / HTTP/1.1|Host: " + strings.Repeat("a", 16384) + "||", "GET / HTTP/1.1|" + strings.Repeat("a", 16385)},
		"501 Not Implemented":                 {"BREW /latest HTTP/1.1|Host: a||", "get /latest HTTP/1.1|Host: a||"},
		"505 HTTP Version Not Supported":      {"GET /latest HTTP/1.2|Host: a||", "GET /latest HTTP/0.9||"},
	} {
		refusal := plain(status, closing, status[4:]+"\n")
		for _, r := range requests {
			serves(t, s, wire(r), refusal)
			serves(t, s, wire(r)+get("/latest"), refusal)
			serves(t, s, get("/latest")+wire(r)+get("/latest"), one+refusal)
		}
	}
}

func TestTheLimitOfAStream(t *testing.T) { // P15.6: the 64th answer closes, whatever it is, and ends it
	c := config(1)
	_, s := begun(t, c, three()...)
	m := modelOf(c, three())
	ask := get("/latest")
	one, last := plain("200 OK", "", headOf(c, three())), plain("200 OK", closing, headOf(c, three()))
	for n := range 131 {
		want := strings.Repeat(one, min(n, 63))
		if n >= 64 {
			want += last
		}
		serves(t, s, strings.Repeat(ask, n), want)
	}
	for _, r := range someRequests() {
		for _, n := range []int{62, 63, 64} {
			served(t, s, m, strings.Repeat(ask, n)+r+ask+ask)
			served(t, s, m, strings.Repeat(ask, n)+r)
		}
	}
	if got := strings.Count(string(s.Serve([]byte(strings.Repeat(wire("POST / HTTP/1.1|Host: a|Content-Length: 6||HTTP/1"), 99)))), "HTTP/1.1 404"); got != 64 {
		t.Errorf("%d answers to 99 requests", got)
	}
}

func TestLargeStreams(t *testing.T) { // P15.6, P0.1: bodies as large as may be, and large tails
	c := config(8)
	records := recs(0, 600)
	_, s := begun(t, c, records...)
	m := modelOf(c, records)
	body := strings.Repeat("GET /latest HTTP/1.1\r\n", 1<<20/22+1)[:1<<20]
	chunks, _ := web.Chunked([]byte(body), 65536)
	for _, stream := range []string{
		wire("POST /latest HTTP/1.1|Host: a|Content-Length: 1048576||") + body + get("/latest"),
		wire("GET /latest HTTP/1.1|Host: a|Transfer-Encoding: chunked||") + string(chunks) + get("/tile/8/data/001"),
		wire("GET /latest HTTP/1.1|Host: a|Content-Length: 1048577||") + body + "x" + get("/latest"),
		get("/tile/8/data/000") + get("/tile/8/0/001") + get("/tile/8/data/002.p/88") + strings.Repeat("y", 1<<21),
		strings.Repeat(get("/tile/8/data/000"), 64), strings.Repeat("\n", 1<<21), strings.Repeat("\x00", 1<<21),
	} {
		served(t, s, m, stream)
	}
}

func TestFieldsAndBodiesPlayNoPart(t *testing.T) { // P15.6: the answer is that of the method and the target; Minor is always 1
	c := config(1)
	_, s := begun(t, c, three()...)
	one := plain("200 OK", "", headOf(c, three()))
	last := plain("200 OK", closing, headOf(c, three()))
	for _, more := range []string{"", "Accept: x/y|", "If-None-Match: *|", "Range: bytes=0-1|", "Expect: 100-continue|", "Upgrade: h2c|", "X-HTTP-Method-Override: PUT|", "Accept-Encoding: gzip|Cookie: a=b|", "Connection: keep-alive|", "Connection: closed|", "Content-Length: 0|"} {
		serves(t, s, wire("GET /latest HTTP/1.1|Host: a|"+more+"|"), one)
		serves(t, s, wire("GET /latest HTTP/1.1|Host: a|"+more+"Connection: CLOSE||"), last)
	}
	for _, host := range []string{"", "a", "b.com:80", "[::1]"} {
		serves(t, s, wire("GET /latest HTTP/1.1|Host: "+host+"||"), one)
		serves(t, s, wire("GET /latest HTTP/1.0|Host: "+host+"|Connection: keep-alive||"), one)
	}
	serves(t, s, wire("GET /latest HTTP/1.0||"), last)
	for _, body := range []string{"", "x", "\r\n\r\n", get("/lookup/")} {
		stream := wire("GET /latest HTTP/1.1|Host: a|Content-Length: "+strconv.Itoa(len(body))+"||") + body
		serves(t, s, stream+stream, one+one)
	}
}

func TestServeIsAnswer(t *testing.T) { // P15.6: the status and the body are those of Answer, for each target that a request can have
	c := config(2)
	_, s := begun(t, c, slices.Concat(three(), recs(0, 4))...)
	for _, method := range []string{"GET", "HEAD", "PATCH"} {
		for _, target := range slices.Concat(someTargets(), namesOf(2)) {
			if target == "" {
				continue
			}
			status, body := s.Answer(method, target)
			b := s.Serve([]byte(method + " " + target + " HTTP/1.1\nHost:\n\n"))
			r, n, e := web.ParseResponse(b)
			if e != 0 || n != len(b) || r.Status != status || string(r.Body) != string(body) || r.Close || r.Minor != 1 {
				t.Errorf("%s %s: %d, %q; Answer: %d, %q", method, target, r.Status, r.Body, status, body)
			}
		}
	}
}
