package server_test

import (
	"bufio"
	"bytes"
	"io"
	"net"
	"net/http"
	"strings"
	"testing"

	"ledger/api"
	"ledger/server"
	"ledger/web"
)

func TestTheLibraryReadsAnswers(t *testing.T) { // P15.6: what is served is HTTP as others read it, one answer behind the other
	c := config(1)
	_, s := begun(t, c, three()...)
	var stream bytes.Buffer
	targets := []string{"/latest", "/lookup/a.com@v1.0.0", "/lookup/a.com/!x@v1.0.0-!r!c1", "/tile/1/0/000", "/tile/1/data/001.p/1", "/nothing", "/tile/1/0/002", "/lookup/x"}
	for _, method := range []string{"GET", "POST"} {
		for _, target := range targets {
			r, err := http.NewRequest(method, "http://log.example"+target, strings.NewReader("body"))
			if err != nil {
				t.Fatal(err)
			}
			if err := r.Write(&stream); err != nil {
				t.Fatal(err)
			}
		}
	}
	answers := bufio.NewReader(bytes.NewReader(s.Serve(stream.Bytes())))
	for _, method := range []string{"GET", "POST"} {
		for _, target := range targets {
			r, err := http.ReadResponse(answers, nil)
			if err != nil {
				t.Fatal(err)
			}
			got, err := io.ReadAll(r.Body)
			status, want := s.Answer(method, target)
			if err != nil || r.StatusCode != status || !bytes.Equal(got, want) || r.Close || (r.Header.Get("Allow") == "GET") != (status == 405) {
				t.Errorf("%s %s is read as %+v, %q, %v", method, target, r, got, err)
			}
			kind := "text/plain; charset=utf-8"
			if status == 200 && strings.HasPrefix(target, "/tile/") {
				kind = "application/octet-stream"
			}
			if r.Header.Get("Content-Type") != kind || len(r.Header["Content-Type"]) != 1 {
				t.Errorf("%s %s: %q", method, target, r.Header["Content-Type"])
			}
		}
	}
	if rest, _ := io.ReadAll(answers); len(rest) != 0 {
		t.Errorf("behind the answers stands %q", rest)
	}
}

// carry: what comes along a pipe goes to the server once it is whole, and the answers come back.
func carry(s *server.Server, pipe net.Conn) {
	defer pipe.Close()
	var seen []byte
	room := make([]byte, 4096)
	for {
		n, err := pipe.Read(room)
		if err != nil {
			return
		}
		seen = append(seen, room[:n]...)
		if _, size, e := web.ParseRequest(seen); e == api.OK {
			pipe.Write(s.Serve(seen[:size]))
			seen = seen[size:]
		}
	}
}

func TestTheLibrarysClient(t *testing.T) { // P15.5, P15.6: a client of others gets what Answer tells
	c := config(2)
	_, s := begun(t, c, three()...)
	client := http.Client{Transport: &http.Transport{Dial: func(string, string) (net.Conn, error) {
		here, there := net.Pipe()
		go carry(s, there)
		return here, nil
	}}}
	defer client.CloseIdleConnections()
	for range 3 {
		for _, target := range []string{"/latest", "/lookup/a.com@v1.0.0", "/lookup/a.com/%21x@v1.0.0-%21r%21c1", "/tile/2/0/000.p/3", "/tile/2/data/000.p/2", "/", "/latest?x=y"} {
			status, want := s.Answer("GET", target)
			r, err := client.Get("http://log.example" + target)
			if err != nil {
				t.Fatal(err)
			}
			got, err := io.ReadAll(r.Body)
			r.Body.Close()
			if err != nil || r.StatusCode != status || !bytes.Equal(got, want) {
				t.Errorf("%s: %d, %q, %v; want %d, %q", target, r.StatusCode, got, err, status, want)
			}
		}
	}
}
