package web_test

import (
	"math"
	"slices"
	"strings"
	"testing"

	"ledger/api"
	"ledger/web"
)

// formatAsTold: FormatRequest, against the chapter's words; and what is printed is read back (P14.6).
func formatAsTold(t *testing.T, r web.Request) api.Errno {
	t.Helper()
	want, wantError := trueRequestBytes(r)
	b, e := web.FormatRequest(r)
	if string(b) != want || e != wantError {
		t.Errorf("FormatRequest(%.200q) = %.200q, %d, want %.200q, %d", printed(r), b, int(e), want, int(wantError))
	}
	if e != api.OK {
		return wantError
	}
	fields := truePrinted(r.Fields, r.Body, len(r.Body) > 0)
	back := web.Request{Method: r.Method, Target: r.Target, Minor: r.Minor, Fields: fields, Body: r.Body, Close: trueClose(fields, r.Minor)}
	if got, n, f := web.ParseRequest(b); !sameRequest(got, back) || n != len(b) || f != api.OK {
		t.Errorf("%.200q is read back as %.200q, %d, %d", b, printed(got), n, int(f))
	}
	return wantError
}

// formatResponseAsTold: likewise.
func formatResponseAsTold(t *testing.T, r web.Response) api.Errno {
	t.Helper()
	want, wantError := trueResponseBytes(r)
	b, e := web.FormatResponse(r)
	if string(b) != want || e != wantError {
		t.Errorf("FormatResponse(%.200q) = %.200q, %d, want %.200q, %d", printed(r), b, int(e), want, int(wantError))
	}
	if e != api.OK {
		return wantError
	}
	told := r.Status >= 200 && r.Status != 204 && r.Status != 304
	fields := truePrinted(r.Fields, r.Body, told)
	back := web.Response{Status: r.Status, Minor: r.Minor, Fields: fields, Body: r.Body, Close: trueClose(fields, r.Minor)}
	if got, n, f := web.ParseResponse(b); !sameResponse(got, back) || n != len(b) || f != api.OK {
		t.Errorf("%.200q is read back as %.200q, %d, %d", b, printed(got), n, int(f))
	}
	return wantError
}

// someFields: rightly and wrongly made.
func someFields() []web.Field {
	return []web.Field{
		{Name: "Host", Value: "a.com"}, {Name: "hOSt", Value: " \t"}, {Name: "host", Value: "a b"}, {Name: "Host", Value: "a/b"},
		{Name: "Content-Length", Value: "7"}, {Name: "content-LENGTH", Value: "\n"}, {Name: "Transfer-Encoding", Value: "chunked"}, {Name: "tRANSFER-eNCODING", Value: "\x00"},
		{Name: "Connection", Value: "close"}, {Name: "connection", Value: "\tx , keep-ALIVE "}, {Name: "a", Value: ""}, {Name: "", Value: "b"}, {Name: "a b", Value: "c"}, {Name: "a:", Value: "c"}, {Name: "Content-Length ", Value: "1"},
		{Name: "^|", Value: "\xe9\t\xff"}, {Name: "a", Value: "b\r\nc: d"}, {Name: "a", Value: "\n"}, {Name: "a", Value: "b\r"}, {Name: "a", Value: "\x7f"}, {Name: "\xe9", Value: ""},
	}
}

// someLists: none, each field alone, each two of them, and some threes.
func someLists() [][]web.Field {
	all := [][]web.Field{nil, {}}
	fields := someFields()
	for _, a := range fields {
		all = append(all, []web.Field{a})
		for _, b := range fields {
			all = append(all, []web.Field{a, b}, []web.Field{fields[0], a, b})
		}
	}
	return all
}

func TestPrintedRequests(t *testing.T) { // P14.4, P14.6
	done := 0
	for _, method := range []string{"GET", "POST", "get", "", "G T", "BREW"} {
		for _, target := range []string{"/", "*", "", "/a b", "/\xe9"} {
			for _, minor := range []int{0, 1, 2, -1} {
				if minor > 1 && target == "*" {
					continue
				}
				for i, list := range someLists() {
					body := []string{"", "xy", "\r\n\x00"}[i%3]
					if formatAsTold(t, web.Request{Method: method, Target: target, Minor: minor, Fields: list, Body: []byte(body), Close: i%2 == 0}) == api.OK {
						done++
					}
				}
			}
		}
	}
	if done < 500 {
		t.Errorf("%d requests were printed: not all was tried", done)
	}
}

func TestPrintedResponses(t *testing.T) { // P14.5, P14.6
	done := 0
	for _, status := range []int{100, 199, 200, 204, 304, 404, 418, 599, 99, 600, 0, -1} {
		for _, minor := range []int{0, 1, 2, -1} {
			for i, list := range someLists() {
				body := []string{"", "xy", "\r\n\x00"}[i%3]
				if formatResponseAsTold(t, web.Response{Status: status, Minor: minor, Fields: list, Body: []byte(body), Close: i%2 == 0}) == api.OK {
					done++
				}
			}
		}
	}
	for status := 90; status < 610; status++ {
		for _, body := range []string{"", "x"} {
			formatResponseAsTold(t, web.Response{Status: status, Minor: 1, Body: []byte(body)})
		}
	}
	if done < 500 {
		t.Errorf("%d responses were printed: not all was tried", done)
	}
}

func TestEachByteIsPrintedOrRefused(t *testing.T) { // P14.4, P14.5, P14.6
	for c := range 256 {
		piece := string([]byte{byte(c)})
		for _, form := range []string{"?", "a?", "?a", "a?b"} {
			s := strings.Replace(form, "?", piece, 1)
			formatAsTold(t, web.Request{Method: s, Target: "/"})
			formatAsTold(t, web.Request{Method: "GET", Target: s})
			for _, field := range []web.Field{{Name: s}, {Name: "a", Value: s}, {Name: "Host", Value: s}, {Name: "Connection", Value: "close" + s}} {
				formatAsTold(t, web.Request{Method: "GET", Target: "/", Minor: 0, Fields: []web.Field{field}})
				formatAsTold(t, web.Request{Method: "GET", Target: "/", Minor: 1, Fields: []web.Field{field}})
				formatResponseAsTold(t, web.Response{Status: 200, Minor: 1, Fields: []web.Field{field}, Body: []byte(s)})
			}
		}
	}
}

func TestPrintedFirstLines(t *testing.T) { // P14.4: lengths as they would be printed, Minor in tens whatever it is
	for n := 7950; n <= 8010; n++ {
		for _, minor := range []int{0, 1, 10, -7, 100, math.MaxInt, math.MinInt} {
			formatAsTold(t, web.Request{Method: "GET", Target: "/" + strings.Repeat("t", n), Minor: minor})
			formatAsTold(t, web.Request{Method: strings.Repeat("m", n), Minor: minor})
			formatAsTold(t, web.Request{Method: "OPTIONS", Target: strings.Repeat("\n", n), Minor: minor})
		}
	}
	if _, e := web.FormatRequest(web.Request{Target: strings.Repeat("/", 1<<24), Fields: []web.Field{{Name: "a", Value: strings.Repeat("b", 1<<20)}}}); e != api.ErrTarget {
		t.Errorf("a long first line with long fields: %d", int(e))
	}
}

func TestPrintedHeads(t *testing.T) { // P14.4, P14.5: the line Content-Length is counted, the blanks that are trimmed aren't
	for _, n := range []int{16000, 16355, 16356, 16357, 16358, 16359, 16360, 16375, 16376, 16377, 16378, 16379, 16384, 16390} { // with a length and without
		for _, body := range []string{"", "x", strings.Repeat("x", 10)} {
			for _, field := range []web.Field{{Name: "a", Value: strings.Repeat("b", n)}, {Name: strings.Repeat("a", n), Value: "\x00"}, {Name: "a", Value: strings.Repeat(" ", 9) + strings.Repeat("b", n) + "\t\t"}, {Name: "a", Value: strings.Repeat(" ", n)}, {Name: "Transfer-Encoding", Value: strings.Repeat("b", n)}} {
				formatAsTold(t, web.Request{Method: "GET", Target: "/", Fields: []web.Field{field}, Body: []byte(body)})
				formatAsTold(t, web.Request{Method: "", Target: "/", Minor: 5, Fields: []web.Field{field}, Body: []byte(body)})
				for _, status := range []int{200, 204, 700} {
					formatResponseAsTold(t, web.Response{Status: status, Minor: 1, Fields: []web.Field{field}, Body: []byte(body)})
				}
				formatResponseAsTold(t, web.Response{Status: 0, Minor: 7, Fields: []web.Field{field}, Body: []byte(body)})
			}
		}
	}
}

func TestPrintedCounts(t *testing.T) { // P14.4, P14.5: at most 64 lines, Content-Length among them, those that are left out not
	for n := 60; n <= 68; n++ {
		for _, name := range []string{"a", "", "Content-Length", "connection"} {
			list := slices.Repeat([]web.Field{{Name: name, Value: "0"}}, n)
			for _, body := range []string{"", "x"} {
				formatAsTold(t, web.Request{Method: "GET", Target: "/", Fields: list, Body: []byte(body)})
				formatAsTold(t, web.Request{Method: "GET", Target: "/", Minor: 1, Fields: list, Body: []byte(body)})
				for _, status := range []int{99, 199, 200, 204, 304} {
					formatResponseAsTold(t, web.Response{Status: status, Minor: 1, Fields: list, Body: []byte(body)})
				}
			}
		}
	}
}

func TestPrintedBodies(t *testing.T) { // P14.4, P14.5
	body := slices.Repeat([]byte("z"), 1048577)
	for _, n := range []int{0, 1, 9, 10, 1048575, 1048576, 1048577} {
		formatAsTold(t, web.Request{Method: "GET", Target: "/", Body: body[:n]})
		formatAsTold(t, web.Request{Method: "GET", Target: "/", Minor: 1, Body: body[:n]})
		for _, status := range []int{100, 200, 204, 304, 600} {
			formatResponseAsTold(t, web.Response{Status: status, Minor: 1, Body: body[:n]})
		}
	}
}

func TestOrderOfPrintedErrors(t *testing.T) { // P14.4, P14.5, P0.1: every fault at once, then one less each time
	long := strings.Repeat("b", 20000)
	r := web.Request{Method: long, Target: "", Minor: 2, Fields: slices.Repeat([]web.Field{{Name: "", Value: long}}, 65), Body: slices.Repeat([]byte("z"), 1048577)}
	for _, c := range []struct {
		want api.Errno
		mend func()
	}{
		{api.ErrTarget, func() { r.Method = "BREW" }},
		{api.ErrLong, func() { r.Fields = slices.Repeat([]web.Field{{Name: "", Value: "b"}}, 65) }},
		{api.ErrStart, func() { r.Target = "/" }},
		{api.ErrMethod, func() { r.Method = "PUT" }},
		{api.ErrProtocol, func() { r.Minor = 1 }},
		{api.ErrLong, func() { r.Fields = r.Fields[:63] }},
		{api.ErrField, func() { r.Fields = []web.Field{{Name: "a", Value: "b"}} }},
		{api.ErrHost, func() { r.Fields = []web.Field{{Name: "Host", Value: "b"}} }},
		{api.ErrLength, func() { r.Body = r.Body[1:] }},
		{api.OK, func() {}},
	} {
		if e := formatAsTold(t, r); e != c.want {
			t.Errorf("FormatRequest: %d, want %d", int(e), int(c.want))
		}
		c.mend()
	}
	a := web.Response{Status: 600, Minor: 2, Fields: slices.Repeat([]web.Field{{Name: "", Value: long}}, 65), Body: slices.Repeat([]byte("z"), 1048577)}
	for _, c := range []struct {
		want api.Errno
		mend func()
	}{
		{api.ErrLong, func() { a.Fields = slices.Repeat([]web.Field{{Name: "", Value: "b"}}, 65) }},
		{api.ErrProtocol, func() { a.Minor = 0 }},
		{api.ErrStatus, func() { a.Status = 204 }},
		{api.ErrLong, func() { a.Fields = a.Fields[:64] }},
		{api.ErrField, func() { a.Fields = []web.Field{{Name: "Host", Value: "a/b"}} }},
		{api.ErrLength, func() { a.Body = a.Body[:1] }},
		{api.ErrLength, func() { a.Body = nil }},
		{api.OK, func() {}},
	} {
		if e := formatResponseAsTold(t, a); e != c.want {
			t.Errorf("FormatResponse: %d, want %d", int(e), int(c.want))
		}
		c.mend()
	}
}
