package server_test

import (
	"bytes"
	"fmt"
	"math/rand"
	"slices"
	"strings"
	"sync"
	"testing"

	"ledger/api"
	"ledger/disk"
	"ledger/server"
)

// roomy: the items with room behind them, which an append would fill, and all of it.
func roomy[T any](items []T, rest ...T) (given, all []T) {
	all = slices.Concat(items, rest)
	return all[:len(items)], all
}

// spoil: writes over a list and the room behind it.
func spoil[T any](list []T, with T) {
	list = list[:cap(list)]
	for i := range list {
		list[i] = with
	}
}

func TestGivenListsStay(t *testing.T) { // P15.9, P0.2: not changed, nor the room behind them, and not kept
	c := config(1)
	_, s := begun(t, c)
	given, all := roomy(recs(0, 3), rec(7), rec(8))
	before := slices.Clone(all)
	s.Append(given)
	if !slices.Equal(all, before) {
		t.Error("Append changes its list")
	}
	spoil(all, "#")
	isLog(t, "behind a spoilt list", s, c, recs(0, 3))
	for _, stream := range append(someRequests(), strings.Join(someRequests(), ""), strings.Repeat(get("/latest"), 70)) {
		given, all := roomy([]byte(stream), []byte(get("/latest")+"more")...)
		before := bytes.Clone(all)
		got := s.Serve(given)
		want := bytes.Clone(got)
		if !bytes.Equal(all, before) {
			t.Errorf("Serve changes its bytes: %q", stream)
		}
		spoil(all, '#')
		if !bytes.Equal(got, want) || !bytes.Equal(s.Serve([]byte(stream)), want) {
			t.Errorf("Serve's answer changes with its bytes: %q", stream)
		}
	}
	body, _ := s.Lookup(keyOf(1))
	lookup, allBytes := roomy(body, []byte("more")...)
	id, r, head, e := server.ParseLookup(lookup)
	if !bytes.Equal(allBytes, append(bytes.Clone(body), "more"...)) {
		t.Error("ParseLookup changes its bytes")
	}
	spoil(allBytes, '#')
	if id != 1 || r != rec(1) || string(head) != headOf(c, recs(0, 3)) || e != api.OK {
		t.Errorf("ParseLookup's answers change with its bytes: %d, %q, %q, %d", id, r, head, int(e))
	}
}

func TestAnswersAreNewMemory(t *testing.T) { // P15.9, P0.2: two answers, and an answer and what is kept
	c := config(1)
	d, s := begun(t, c)
	ids, _ := s.Append(recs(0, 5))
	other, _ := s.Append(recs(0, 5))
	spoil(ids, -1)
	if !slices.Equal(other, []int64{0, 1, 2, 3, 4}) {
		t.Error("two lists of ids share memory")
	}
	files := told(d)
	lookup, _ := s.Lookup(keyOf(2))
	for name, call := range map[string]func() []byte{
		"Head":        s.Head,
		"/latest":     func() []byte { _, b := s.Answer("GET", "/latest"); return b },
		"/lookup/":    func() []byte { _, b := s.Answer("GET", "/lookup/"+keyOf(2)); return b },
		"a tile":      func() []byte { _, b := s.Answer("GET", "/tile/1/0/001"); return b },
		"a part":      func() []byte { _, b := s.Answer("GET", "/tile/1/0/001.p/1"); return b },
		"data":        func() []byte { _, b := s.Answer("GET", "/tile/1/data/001"); return b },
		"404":         func() []byte { _, b := s.Answer("GET", "/"); return b },
		"400":         func() []byte { _, b := s.Answer("GET", ""); return b },
		"405":         func() []byte { _, b := s.Answer("", "/latest"); return b },
		"Serve":       func() []byte { return s.Serve([]byte(get("/latest") + get("/tile/1/0/000") + "x\n\n")) },
		"Lookup":      func() []byte { b, _ := s.Lookup(keyOf(2)); return b },
		"ParseLookup": func() []byte { _, _, b, _ := server.ParseLookup(lookup); return b },
	} {
		first, second := call(), call()
		want := bytes.Clone(second)
		spoil(first, '#')
		if len(want) == 0 || !bytes.Equal(second, want) || !bytes.Equal(call(), want) {
			t.Errorf("%s: an answer shares memory with another one, or with what is kept", name)
		}
	}
	isLog(t, "behind spoilt answers", s, c, recs(0, 5))
	if told(d) != files {
		t.Error("a spoilt answer is seen on the disk")
	}
	head := s.Head()
	s.Append(recs(5, 6))
	if string(head) != headOf(c, recs(0, 5)) {
		t.Error("an append is seen in an earlier answer")
	}
}

func TestConfigIsNotKept(t *testing.T) { // P15.9: a config that is changed later changes nothing
	c := config(1)
	d := made(t)
	s, _ := server.Create(d, c)
	c.Origin, c.Height, c.Signer = "other", 8, ""
	s.Append(recs(0, 3))
	isLog(t, "behind a changed config", s, config(1), recs(0, 3))
}

// story: a long run of appends, faults, crashes and requests, and all that was told on the way.
func story(seed int64) string {
	var out strings.Builder
	r := rand.New(rand.NewSource(seed))
	c := config(1 + r.Intn(3))
	d, _ := disk.New(room)
	s, _ := server.Create(d, c)
	requests := append(someRequests(), get("/tile/1/0/000"), get("/tile/2/data/000.p/2"), get("/tile/3/0/000.p/5"))
	for i := range 30 {
		if i%6 == 5 {
			d = d.Crash([]int{r.Intn(9), r.Intn(99)})
			var e api.Errno
			s, e = server.Open(d, c)
			fmt.Fprintln(&out, int(e))
		}
		if r.Intn(4) == 0 {
			d.Fail(1+r.Intn(30), api.ErrIO)
		}
		n := r.Intn(40)
		ids, e := s.Append(recs(n, n+r.Intn(4)))
		status, b := s.Answer("GET", "/lookup/"+keyOf(r.Intn(40)))
		stream := requests[r.Intn(len(requests))] + requests[r.Intn(len(requests))] + get("/latest")
		fmt.Fprintln(&out, ids, int(e), s.Size(), string(s.Head()), status, string(b), string(s.Serve([]byte(stream))), told(d))
	}
	return out.String()
}

func TestSameCallsSameAnswers(t *testing.T) { // P15.9, P0.2: whatever other servers are asked, at the same time too
	var first []string
	for seed := range 4 {
		first = append(first, story(int64(seed)))
	}
	if first[0] == first[1] || strings.Count(first[0], "HTTP/1.1 200") < 10 {
		t.Fatal("the stories tell nothing")
	}
	again := make([]string, 24)
	var wg sync.WaitGroup
	for i := range again {
		wg.Go(func() { again[i] = story(int64(i % 4)) })
	}
	wg.Wait()
	for i, s := range again {
		if s != first[i%4] {
			t.Errorf("story %d is told otherwise the second time", i%4)
		}
	}
}

func TestAnyBytes(t *testing.T) { // P0.1, P15.9: every call ends, none panics, whatever it is given
	c := config(1)
	_, s := begun(t, c, three()...)
	m := modelOf(c, three())
	chance := rand.New(rand.NewSource(15))
	pieces := []string{"GET ", "HEAD ", "/latest", "/lookup/", "/tile/", "a.com", "@", "v1.0.0", "1/0/000", "1/data/", ".p/1", " HTTP/1.1", " HTTP/1.0", "\r\n", "\n", "\r\n\r\n", "Host: a\r\n", "Connection: close\n", "Content-Length: 3\r\n", "Transfer-Encoding: chunked\r\n", "0", "1", "\x00", "\xff", "é", "%", "%41", "?", "!", " ", "\n\n", "— a AAAAB3g=\n", three()[0], "0\n", headOf(c, three())}
	word := func(most int) string {
		w := ""
		for range chance.Intn(most) {
			w += pieces[chance.Intn(len(pieces))]
		}
		return w
	}
	for range 20000 {
		served(t, s, m, word(12))
		served(t, s, m, "GET "+word(4)+" HTTP/1.1\nHost: a\n\n"+word(9))
		asTold(t, s, m, word(2), "/"+word(5))
		asTold(t, s, m, "GET", "/"+word(5))
		asTold(t, s, m, "GET", "/lookup/"+word(4))
		asTold(t, s, m, "GET", "/tile/"+word(4))
		parsedAsTold(t, word(6))
		parsedAsTold(t, "0\n"+three()[0]+"\n"+word(5))
		if b, e := s.Lookup(word(5)); (len(b) == 0) != (e != api.OK) {
			t.Errorf("Lookup: %q, %d", b, int(e))
		}
	}
}
