package server_test

import (
	"slices"
	"strings"
	"testing"

	"ledger/api"
	"ledger/disk"
	"ledger/note"
	"ledger/server"
	"ledger/store"
)

func TestAnswerExamples(t *testing.T) { // P15.5: examples 1 to 3
	c := config(8)
	_, s := begun(t, c, three()...)
	head := headOf(c, three())
	answers(t, s, "GET", "/latest", 200, head)
	answers(t, s, "GET", "/latest?", 200, head)
	for _, method := range []string{"HEAD", "", "get"} {
		refuses(t, s, 405, method, "/latest")
	}
	refuses(t, s, 404, "GET", "/latest/", "/", "/Latest")
	refuses(t, s, 404, "POST", "/lookup")
	refuses(t, s, 400, "GET", "/latest?x", "latest")
	refuses(t, s, 400, "POST", "")
	answers(t, s, "GET", "/lookup/a.com@v1.0.0", 200, "0\n"+three()[0]+"\n"+head)
	answers(t, s, "GET", "/lookup/a.com/!x@v1.0.0-!r!c1", 200, "1\n"+three()[1]+"\n"+head)
	answers(t, s, "GET", "/lookup/a.com/%21x@v1.0.0-!r!c1", 200, "1\n"+three()[1]+"\n"+head)
	refuses(t, s, 400, "GET", "/lookup/a.com/X@v1.0.0-!r!c1", "/lookup/", "/lookup/a.com", "/lookup/a.com@v1.0.0@", "/lookup/A.com@v1.0.0", "/lookup/a.com@1.0.0", "/lookup/b.org/v2@v1.0.0")
	refuses(t, s, 404, "GET", "/lookup/a.com@v1.0.1")
	refuses(t, s, 405, "PUT", "/lookup/a.com")
}

func TestTileExamples(t *testing.T) { // P15.5: examples 4 and 5
	c := config(8)
	d, s := begun(t, c, three()...)
	hashes := ""
	for _, place := range []int{0, 1, 3} { // the leaves' places
		h := storedOf(0, three())[place]
		hashes += string(h[:])
	}
	answers(t, s, "GET", "/tile/8/0/000.p/3", 200, hashes)
	answers(t, s, "GET", "/tile/8/0/000.p/2", 200, hashes[:64])
	refuses(t, s, 404, "GET", "/tile/8/0/000.p/4", "/tile/8/0/000", "/tile/8/1/000.p/1", "/tile/4/0/000.p/3")
	refuses(t, s, 400, "GET", "/tile/8/0/000.p/0", "/tile/8/0/0.p/3", "/tile/9/0/000.p/3", "/tile/")
	data := ""
	for _, r := range three() {
		data += "\x00" + string([]byte{byte(len(r))}) + r
	}
	answers(t, s, "GET", "/tile/8/data/000.p/3", 200, data)
	d.Remove("tile/8/0/000.p/3")
	refuses(t, s, 500, "GET", "/tile/8/0/000.p/3", "/tile/8/0/000.p/1")
	isLog(t, "without the file", s, c, three())
	answers(t, s, "GET", "/lookup/b.org/v2@v2.0.0", 200, bodyOf(c, three(), 2))
	answers(t, s, "GET", "/tile/8/data/000.p/3", 200, data)
}

// someTargets: such as are told, and such as are refused for each reason.
func someTargets() []string {
	return []string{
		"/latest", "/lookup/a.com@v1.0.0", "/lookup/a.com/!x@v1.0.0-!r!c1", "/lookup/b.org/v2@v2.0.0", "/lookup/a.com@v1.0.1", "/lookup/m.example/x3@v1.0.0", "/lookup/a.com%40v1.0.0",
		"/tile/1/0/000", "/tile/1/0/001.p/1", "/tile/1/1/000.p/1", "/tile/1/data/000", "/tile/2/0/000.p/3", "/tile/2/data/000.p/1", "/tile/8/0/000.p/3", "/tile/8/data/000.p/2", "/tile/2/0/x001/000",
		"/", "/lookup/", "/tile/", "/latest?", "/latest?a", "*", "http://a.com/latest", "",
	}
}

// asTold: Answer, against the chapter's words.
func asTold(t *testing.T, s *server.Server, m *model, method, target string) {
	t.Helper()
	status, body := m.answer(method, target)
	answers(t, s, method, target, status, body)
}

func TestAnswerAsTold(t *testing.T) { // P15.5, P15.8: each edit of the targets, over logs of several heights
	pieces := []string{"/", "@", "!", "%", "%40", "%2f", "%2F", "%00", "%7f", "?", "#", ".", "0", "1", "A", "a", "x", "-", "+", " ", "\x00", "\n", "\xff", "é", "//", "..", "/latest", "data"}
	for _, h := range []int{1, 2, 8} {
		c := config(h)
		records := slices.Concat(three(), recs(3, 5))
		_, s := begun(t, c, records...)
		m := modelOf(c, records)
		seen := map[int]int{}
		for _, target := range someTargets() {
			for _, edited := range append(edits(target, pieces...), target) {
				status, _ := m.answer("GET", edited)
				seen[status]++
				asTold(t, s, m, "GET", edited)
				asTold(t, s, m, "PUT", edited)
			}
		}
		if seen[200] < 50 || seen[400] < 500 || seen[404] < 500 {
			t.Errorf("height %d: the targets are of too few kinds: %v", h, seen)
		}
	}
}

func TestMethodsAsTold(t *testing.T) { // P15.5: whatever text the method is, behind 400 and 404 and ahead of what the route says
	c := config(1)
	_, s := begun(t, c, three()...)
	m := modelOf(c, three())
	methods := append(edits("GET", "G", "g", " ", "\n", "\x00", "É"), "", "HEAD", "POST", "PUT", "DELETE", "CONNECT", "OPTIONS", "TRACE", "PATCH", "get", "BREW", strings.Repeat("GET", 10000), "\xff")
	for _, method := range append(methods, "GET") {
		for _, target := range someTargets() {
			asTold(t, s, m, method, target)
		}
	}
	for _, method := range methods {
		if method == "GET" {
			continue
		}
		refuses(t, s, 400, method, "latest", "/nothing?x", "/%2flatest", "/lookup/a.com@v1.0.0?x", "/tile/1/0/000?x")
		refuses(t, s, 404, method, "/nothing", "/latest/", "/tile", "/lookup", "/Tile/")
		refuses(t, s, 405, method, "/latest", "/lookup/", "/lookup/a.com@v1.0.1", "/tile/", "/tile/x", "/tile/1/0/000")
	}
}

func TestTargetsThatAreLong(t *testing.T) { // P15.5, P0.1
	c := config(1)
	_, s := begun(t, c, three()...)
	for _, n := range []int{300, 9000, 1 << 20, 1 << 22} {
		long := strings.Repeat("a", n)
		refuses(t, s, 404, "GET", "/"+long)
		refuses(t, s, 400, "GET", "/lookup/"+long, "/lookup/"+strings.Repeat("@", n), "/lookup/a.com/"+long+"@v1.0.0", "/lookup/a.com@v1.0.0-"+long, "/tile/"+long, "/tile/1/0/"+strings.Repeat("x001/", n)+"000", "/"+strings.Repeat("%", n), "/latest?"+long, long)
		refuses(t, s, 405, long, "/latest")
	}
	path := "a.com/" + strings.Repeat("b", 249)
	refuses(t, s, 404, "GET", "/lookup/"+path+"@v1.0.0", "/lookup/a.com@v1.0.0-"+strings.Repeat("a", 121))
	refuses(t, s, 400, "GET", "/lookup/"+path+"b@v1.0.0", "/lookup/a.com@v1.0.0-"+strings.Repeat("a", 122))
}

func TestEscapedTargets(t *testing.T) { // P15.5: the path counts as web.Path decodes it, whatever its escapes
	c := config(2)
	_, s := begun(t, c, three()...)
	m := modelOf(c, three())
	for _, target := range []string{"/latest", "/lookup/a.com/!x@v1.0.0-!r!c1", "/tile/2/0/000.p/3", "/tile/2/data/000.p/2"} {
		status, want := m.answer("GET", target)
		if status != 200 {
			t.Fatalf("%s: %d", target, status)
		}
		all := ""
		for i := range len(target) {
			escaped := "%" + strings.ToUpper(hexOf(target[i]))
			if target[i] == '/' {
				refuses(t, s, 400, "GET", target[:i]+escaped+target[i+1:])
				escaped = "/"
			}
			answers(t, s, "GET", target[:i]+escaped+target[i+1:], 200, want)
			answers(t, s, "GET", target[:i]+strings.ToLower(escaped)+target[i+1:], 200, want)
			all += escaped
		}
		answers(t, s, "GET", all, 200, want)
		answers(t, s, "GET", all+"?", 200, want)
		refuses(t, s, 400, "GET", all+"?a", all+"??", all+"?%", all+"#", all+"?#")
	}
}

func hexOf(c byte) string { return string("0123456789abcdef"[c>>4]) + string("0123456789abcdef"[c&15]) }

// spoils: what somebody does to a file of the disk, so that its tile can't be told.
func spoils() map[string]func(*disk.Disk, string) {
	return map[string]func(*disk.Disk, string){
		"removed":   func(d *disk.Disk, name string) { d.Remove(name) },
		"emptied":   func(d *disk.Disk, name string) { d.Create(name) },
		"changed":   func(d *disk.Disk, name string) { d.Write(name, 3, []byte("#")) },
		"longer":    func(d *disk.Disk, name string) { b, _ := d.Read(name); d.Write(name, len(b), []byte{0}) },
		"elsewhere": func(d *disk.Disk, name string) { d.Rename(name, "x") },
	}
}

func TestSpoiltTiles(t *testing.T) { // P15.5, example 5: 500 for the tile alone, at each of its widths; 400, 404 and 405 come ahead of it
	for what, spoil := range spoils() {
		for _, h := range []int{1, 2, 8} {
			c := config(h)
			files, _ := begun(t, c, recs(0, 7)...)
			for _, name := range files.List("tile/") {
				d, s := begun(t, c, recs(0, 7)...)
				spoil(d, name)
				m := modelOf(c, recs(0, 7))
				m.gone = func(path string) bool { return path == name }
				for _, other := range files.List("tile/") {
					asTold(t, s, m, "GET", "/"+other)
					asTold(t, s, m, "POST", "/"+other)
					base, _, _ := strings.Cut(other, ".p/")
					for _, width := range []string{"", ".p/1", ".p/2", ".p/3", ".p/4", ".p/7", ".p/8", ".p/0"} {
						asTold(t, s, m, "GET", "/"+base+width)
					}
				}
				if status, _ := s.Answer("GET", "/"+name); status != 500 {
					t.Errorf("%s %s: %d", name, what, status)
				}
				isLog(t, name+" "+what, s, c, recs(0, 7))
			}
		}
	}
}

func TestADeadDisk(t *testing.T) { // P15.5: a tile that the log has is 500, one that it has not 404; the rest goes on
	c := config(2)
	d, s := begun(t, c, recs(0, 7)...)
	m := modelOf(c, recs(0, 7))
	m.dead = true
	d.Crash(nil)
	for _, target := range append(someTargets(), "/tile/2/0/000", "/tile/2/0/001.p/3", "/tile/2/0/001", "/tile/2/data/001.p/2", "/tile/2/1/000.p/1", "/tile/2/1/000.p/2") {
		asTold(t, s, m, "GET", target)
		asTold(t, s, m, "PUT", target)
	}
	refuses(t, s, 500, "GET", "/tile/2/0/000", "/tile/2/data/001.p/1")
	isLog(t, "on a dead disk", s, c, recs(0, 7))
}

func TestAnswersOfALogThatGrows(t *testing.T) { // P15.5, P15.8: the head and the tiles as they are now, behind each append
	for _, c := range []store.Config{config(1), config(3), {Origin: "x", Signer: signerOf(note.AlgEd25519, 9), Height: 2}, {Origin: "é", Signer: signerOf(note.AlgDrill, 1), Height: 1, Strength: 2}} {
		d, s := begun(t, c)
		var records []string
		for n := range 10 {
			m := modelOf(c, records)
			for _, target := range slices.Concat(someTargets(), namesOf(c.Height), []string{"/lookup/" + keyOf(n), "/lookup/" + keyOf(0), "/lookup/" + keyOf(max(0, n-1))}) {
				asTold(t, s, m, "GET", target)
			}
			isLog(t, "grown", s, c, records)
			if n == 5 {
				var e api.Errno
				if s, e = server.Open(d, c); e != api.OK {
					t.Fatal(e)
				}
			}
			s.Append([]string{rec(n), rec(n, 4), rec(0, 5)})
			records = append(records, rec(n))
		}
	}
}

// namesOf: some tiles' paths of a height, as targets.
func namesOf(h int) []string {
	var l []string
	for _, level := range []string{"0", "1", "2", "3", "data"} {
		for _, n := range []string{"000", "001", "002", "003", "004", "005"} {
			for _, width := range []string{"", ".p/1", ".p/2", ".p/3", ".p/7"} {
				l = append(l, "/tile/"+string(rune('0'+h))+"/"+level+"/"+n+width)
			}
		}
	}
	return l
}
