package web_test

import (
	"strings"
	"testing"

	"ledger/api"
	"ledger/web"
)

func TestFirstLineLengths(t *testing.T) { // P14.1: number 1, around its edges, with every end
	for n := 7997; n <= 8005; n++ {
		for _, end := range []string{"", "\n", "\r\n", "\r", "\r\r\n", "\n\n", "\r\n\r\n", "\r\n\n", "\nx", "x\n"} {
			requestAsTold(t, []byte("GET /"+strings.Repeat("a", n-14)+" HTTP/1.0"+end))
			requestAsTold(t, []byte(strings.Repeat("\r", n)+end))
			responseAsTold(t, []byte("HTTP/1.0 200 "+strings.Repeat("a", n-13)+end))
			responseAsTold(t, []byte(strings.Repeat("x", n)+end))
		}
	}
	for _, n := range []int{8002, 9000, 20000, 3 << 20} {
		for _, end := range []string{"", "|", "||", "^x^^"} {
			refuses(t, strings.Repeat("x", n)+end, api.ErrTarget)
			refusesResponse(t, strings.Repeat("x", n)+end, api.ErrStart)
		}
	}
	refuses(t, strings.Repeat("x", 8001)+"^"+strings.Repeat("y", 20000), api.ErrTarget) // ahead of the head's length
}

func TestHeadLengths(t *testing.T) { // P14.1: number 2, around its edges, with every end
	for n := 16378; n <= 16390; n++ {
		for _, end := range []string{"", "\n", "\r\n", "\n\n", "\r\n\r\n", "\r\n\n", "\n\r\n", "\n\r\r\n", "\n\r", "\nx", "\n\nx", "\r\n\r\nx"} {
			for _, fields := range []string{"a:" + strings.Repeat("b", n-2), "a\n" + strings.Repeat("b", n-2), strings.Repeat("x:\n", n/3)} {
				requestAsTold(t, []byte("GET / HTTP/1.0\r\n"+fields+end))
				responseAsTold(t, []byte("HTTP/1.0 200\n"+fields+end))
				requestAsTold(t, []byte("nonsense\n"+fields+end))
			}
		}
	}
	for _, n := range []int{16385, 20000, 3 << 20} {
		for _, end := range []string{"", "|", "||", "^^x"} {
			refuses(t, "x|"+strings.Repeat("y", n)+end, api.ErrLong)
			refusesResponse(t, "x|"+strings.Repeat("y", n)+end, api.ErrLong)
		}
	}
}

func TestFieldCounts(t *testing.T) { // P14.1: number 7: the count is ahead of the forms, and behind the first line
	for n := 60; n <= 70; n++ {
		for _, line := range []string{"a: b|", "a:^", "a b|", "Connection: close|", "Content-Length: 0|"} {
			requestAsTold(t, wire("GET / HTTP/1.0|"+strings.Repeat(line, n)+"|"))
			responseAsTold(t, wire("HTTP/1.0 200|"+strings.Repeat(line, n)+"|"))
		}
	}
	if r := takes(t, "GET / HTTP/1.0|"+strings.Repeat("a: b|", 64)+"|", 0); len(r.Fields) != 64 || r.Fields[63] != (web.Field{Name: "a", Value: "b"}) {
		t.Errorf("of 64 fields: %q", printed(r))
	}
	refuses(t, "GET / HTTP/1.0|"+strings.Repeat("a b|", 65)+"|", api.ErrLong)
	refuses(t, "GET / HTTP/1.0|"+strings.Repeat("a b|", 64)+"|", api.ErrField)
	refuses(t, "GET / HTTP/1.4|"+strings.Repeat("a: b|", 65)+"|", api.ErrProtocol)
	refusesResponse(t, "HTTP/1.1 600|"+strings.Repeat("a: b|", 65)+"|", api.ErrStatus)
	refusesResponse(t, "HTTP/1.1 304|"+strings.Repeat("a: b|", 65)+"|", api.ErrLong)
}

func TestBodyLengths(t *testing.T) { // P14.1: numbers 9 and 10
	body := strings.Repeat("x", 1048576)
	const post = "POST / HTTP/1.0|Content-Length: "
	if r := takes(t, post+"1048576||"+body, 0); string(r.Body) != body {
		t.Error("a body of 1048576 bytes is not told")
	}
	takes(t, post+"1048575||"+body, 1)
	refuses(t, post+"1048576||"+body[1:], api.ErrShort)
	refuses(t, post+"1048576||", api.ErrShort)
	for _, number := range []string{"1048577", "1048580", "2000000", "9223372036854775807", "9223372036854775808", "18446744073709551616", "18446744073709551617", "1" + strings.Repeat("0", 16000)} {
		refuses(t, post+number+"||"+body+"x", api.ErrLength)
		refusesResponse(t, "HTTP/1.1 200|Content-Length: "+number+"||", api.ErrLength)
		refuses(t, post+"0"+number[:2]+"||", api.ErrField)
	}
	refuses(t, post+strings.Repeat("1", 16000)+"x||", api.ErrField)
	refuses(t, "POST / HTTP/1.0|Content-Length: 1048577|Content-Length: 3||abc", api.ErrField)
	refuses(t, "POST / HTTP/1.1|Host:|Content-Length: 1048577|Transfer-Encoding: chunked||0||", api.ErrField)

	for _, start := range []string{"HTTP/1.1 200||", "HTTP/1.0 500 |Connection: keep-alive||"} {
		if r := takesResponse(t, start+body, 0); string(r.Body) != body || !r.Close {
			t.Error("a body of all bytes is not told, or does not close")
		}
		refusesResponse(t, start+body+"x", api.ErrLength)
	}
	takesResponse(t, "HTTP/1.1 200|Content-Length: 1048576||"+body+"x", 1)
	takesResponse(t, "HTTP/1.1 204||"+body+body, 2*1048576)
}

func TestBodyLengthsInChunks(t *testing.T) { // P14.1, P14.2
	body := strings.Repeat("x", 1048576)
	const post = "POST / HTTP/1.1|Host:|Transfer-Encoding: chunked||"
	if r := takes(t, post+"100000|"+body+"|0||x", 1); string(r.Body) != body {
		t.Error("a chunk of 1048576 bytes is not told")
	}
	if r := takes(t, post+"1|y|fffff|"+body[1:]+"|0||", 0); string(r.Body) != "y"+body[1:] {
		t.Error("chunks of 1048576 bytes are not told")
	}
	refuses(t, post+"100001|"+body+"x|0||", api.ErrLength)
	refuses(t, post+"100000|"+body+"|1|", api.ErrLength)
	refuses(t, post+"100000|"+body+"|1|x|0||", api.ErrLength)
	refuses(t, post+"1|y|100000|", api.ErrLength)
	refuses(t, post+"ffffffff|", api.ErrLength)
	refuses(t, post+"100000|"+body, api.ErrShort)
	refuses(t, post+"100000|"+body+"|0|x", api.ErrChunk)
	refuses(t, post+"100000|"+body+"|1;\x00|", api.ErrChunk)
	refusesResponse(t, "HTTP/1.1 200|Transfer-Encoding: chunked||100001|", api.ErrLength)
}

func TestOrderOfRequestErrors(t *testing.T) { // P14.1, P0.1: every fault at once, then one less each time
	long := strings.Repeat("x", 9000)
	many := strings.Repeat("a b|", 65)
	for _, c := range []struct {
		in   string
		want api.Errno
	}{
		{long + "|" + long + long, api.ErrTarget},
		{"x|" + long + long, api.ErrLong},
		{"x|" + many, api.ErrShort},
		{"x|" + many + "|", api.ErrStart},
		{"BREW / HTTP/2.0|" + many + "|", api.ErrMethod},
		{"GET / HTTP/2.0|" + many + "|", api.ErrProtocol},
		{"GET / HTTP/1.1|" + many + "|", api.ErrLong},
		{"GET / HTTP/1.1|Transfer-Encoding: x|Content-Length: 9999999|a b||", api.ErrField},
		{"GET / HTTP/1.1|Transfer-Encoding: x|Content-Length: 9999999||", api.ErrHost},
		{"GET / HTTP/1.1|Host:|Transfer-Encoding: x|Content-Length: 9999999||", api.ErrField},
		{"GET / HTTP/1.1|Host:|Content-Length: 9999999||", api.ErrLength},
		{"GET / HTTP/1.1|Host:|Content-Length: 9||12345678", api.ErrShort},
		{"GET / HTTP/1.1|Host:|Content-Length: 9||123456789", api.OK},
		{"GET / HTTP/1.1|Host:|Transfer-Encoding: chunked||x|", api.ErrChunk},
		{"GET / HTTP/1.1|Host:|Transfer-Encoding: chunked||100001|", api.ErrLength},
		{"GET / HTTP/1.1|Host:|Transfer-Encoding: chunked||1|", api.ErrShort},
	} {
		if c.want == api.OK {
			takes(t, c.in, 0)
		} else {
			refuses(t, c.in, c.want)
		}
	}
}

func TestOrderOfResponseErrors(t *testing.T) { // P14.1, P0.1
	long := strings.Repeat("x", 9000)
	many := strings.Repeat("a b|", 65)
	for _, c := range []struct {
		in   string
		want api.Errno
	}{
		{long + "|" + long + long, api.ErrStart},
		{"x|" + long + long, api.ErrLong},
		{"x|" + many, api.ErrShort},
		{"x|" + many + "|", api.ErrStart},
		{"HTTP/2.0 600|" + many + "|", api.ErrProtocol},
		{"HTTP/1.1 600|" + many + "|", api.ErrStatus},
		{"HTTP/1.1 200|" + many + "|", api.ErrLong},
		{"HTTP/1.1 200|Content-Length: 9999999|a b||", api.ErrField},
		{"HTTP/1.0 200|Transfer-Encoding: chunked||x|", api.ErrField},
		{"HTTP/1.1 200|Content-Length: 9999999||", api.ErrLength},
		{"HTTP/1.1 200|Content-Length: 9||", api.ErrShort},
		{"HTTP/1.1 200|Transfer-Encoding: chunked||x|", api.ErrChunk},
	} {
		refusesResponse(t, c.in, c.want)
	}
}
