package web_test

import (
	"bufio"
	"bytes"
	"io"
	"net/http"
	"net/http/httputil"
	"net/url"
	"strconv"
	"strings"
	"testing"

	"ledger/api"
	"ledger/web"
)

func TestTheLibraryReadsRequests(t *testing.T) { // P14.4: what is printed is HTTP as others read it
	for _, method := range []string{"GET", "POST", "PUT", "DELETE", "PATCH"} {
		for _, target := range []string{"/latest", "/a%20b?c=d", "/"} {
			for _, body := range []string{"", "xy", strings.Repeat("z", 100000)} {
				for minor := range 2 {
					b, e := web.FormatRequest(web.Request{Method: method, Target: target, Minor: minor, Fields: []web.Field{{Name: "Host", Value: "a.com:80"}, {Name: "X-Y", Value: " b\tc "}}, Body: []byte(body)})
					if e != api.OK {
						t.Fatal(int(e))
					}
					r, err := http.ReadRequest(bufio.NewReader(bytes.NewReader(b)))
					if err != nil {
						t.Fatalf("%.100q: %v", b, err)
					}
					got, err := io.ReadAll(r.Body)
					if err != nil || r.Method != method || r.RequestURI != target || r.ProtoMinor != minor || r.Host != "a.com:80" || r.Header.Get("X-Y") != "b\tc" || string(got) != body {
						t.Errorf("%.100q is read as %+v, %v", b, r, err)
					}
				}
			}
		}
	}
}

func TestTheLibraryReadsResponses(t *testing.T) { // P14.5
	for _, status := range []int{200, 204, 299, 304, 404, 505} {
		for _, body := range []string{"", "no", strings.Repeat("z", 100000)} {
			if body != "" && (status == 204 || status == 304) {
				continue
			}
			b, e := web.FormatResponse(web.Response{Status: status, Minor: 1, Fields: []web.Field{{Name: "a", Value: "b"}}, Body: []byte(body)})
			if e != api.OK {
				t.Fatal(int(e))
			}
			r, err := http.ReadResponse(bufio.NewReader(bytes.NewReader(b)), nil)
			if err != nil {
				t.Fatalf("%.100q: %v", b, err)
			}
			got, err := io.ReadAll(r.Body)
			if err != nil || r.StatusCode != status || r.Status != strconv.Itoa(status)+" "+web.Reason(status) || r.Header.Get("A") != "b" || string(got) != body || r.Close {
				t.Errorf("%.100q is read as %+v, %v", b, r, err)
			}
		}
	}
}

func TestTheLibrarysMessagesAreRead(t *testing.T) { // P14.1, P14.2
	for _, body := range []string{"", "xy", strings.Repeat("z", 70000)} {
		for _, chunks := range []bool{false, true} {
			r, _ := http.NewRequest("POST", "http://a.com/x?y", io.NopCloser(strings.NewReader(body)))
			r.ContentLength = int64(len(body))
			if chunks {
				r.ContentLength, r.TransferEncoding = -1, []string{"chunked"}
			}
			var b bytes.Buffer
			if err := r.Write(&b); err != nil {
				t.Fatal(err)
			}
			got, n, e := web.ParseRequest(b.Bytes())
			if e != api.OK || n != b.Len() || got.Method != "POST" || got.Target != "/x?y" || string(got.Body) != body || got.Close {
				t.Errorf("a request of %d bytes: %.200q, %d, %d", b.Len(), printed(got), n, int(e))
			}
		}
	}
}

func TestTheLibraryReadsChunks(t *testing.T) { // P14.2, P14.3
	for _, body := range []string{"", "a", "\r\n0\r\n\r\n", strings.Repeat("xyz\n", 50000)} {
		for _, size := range []int{1, 15, 16, 255, 65536} {
			b, _ := web.Chunked([]byte(body), size)
			if got, err := io.ReadAll(httputil.NewChunkedReader(bytes.NewReader(b))); err != nil || string(got) != body {
				t.Errorf("%d bytes by %d: %d bytes, %v", len(body), size, len(got), err)
			}
		}
		var b bytes.Buffer
		w := httputil.NewChunkedWriter(&b)
		io.WriteString(w, body)
		w.Close()
		b.WriteString("\r\n")
		if got, n, e := web.Unchunk(b.Bytes()); string(got) != body || n != b.Len() || e != api.OK {
			t.Errorf("%d bytes: %d bytes, %d, %d", len(body), len(got), n, int(e))
		}
	}
}

func TestTheLibraryReadsPaths(t *testing.T) { // P14.10, P14.11
	for c := 0x20; c < 256; c++ {
		path := "/a" + string([]byte{byte(c)}) + "b"
		target, e := web.Escape(path)
		if c == 0x7f {
			continue
		}
		if u, err := url.ParseRequestURI(target); e != api.OK || err != nil || u.Path != path || u.RawQuery != "" {
			t.Errorf("Escape(%q) = %q, %d, which is read as %v, %v", path, target, int(e), u, err)
		}
	}
}
