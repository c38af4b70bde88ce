package server_test

import (
	"fmt"
	"regexp"
	"strings"

	"ledger/api"
	"ledger/modver"
	"ledger/note"
	"ledger/store"
	"ledger/tile"
	"ledger/web"
)

// model: a log of which the chapter's words are said again: its config, its records, and which of the tiles' files are gone.
type model struct {
	c       store.Config
	records []string
	gone    func(path string) bool
	dead    bool
	head    string
	stored  []api.Hash
}

func modelOf(c store.Config, records []string) *model {
	return &model{c: c, records: records, gone: func(string) bool { return false }, head: headOf(c, records), stored: storedOf(c.Strength, records)}
}

func refusal(status int) (int, string) { return status, web.Reason(status) + "\n" }

var lookupTarget = regexp.MustCompile(`^/lookup/([^@]*)@([^@]*)$`)

// answer: P15.5.
func (m *model) answer(method, target string) (int, string) {
	path, query, e := web.Path(target)
	switch {
	case e != api.OK || query != "":
		return refusal(400)
	case path != "/latest" && !strings.HasPrefix(path, "/lookup/") && !strings.HasPrefix(path, "/tile/"):
		return refusal(404)
	case method != "GET":
		return refusal(405)
	case path == "/latest":
		return 200, m.head
	case strings.HasPrefix(path, "/tile/"):
		return m.tile(path[1:])
	}
	parts := lookupTarget.FindStringSubmatch(path)
	if parts == nil {
		return refusal(400)
	}
	return m.lookup(parts[1], parts[2])
}

func (m *model) lookup(escapedPath, escapedVersion string) (int, string) {
	path, e := modver.UnescapePath(escapedPath)
	version, f := modver.UnescapeVersion(escapedVersion)
	key, g := modver.Key(path, version)
	if e != api.OK || f != api.OK || g != api.OK {
		return refusal(400)
	}
	for id, r := range m.records {
		if keyIn(r) == key {
			return 200, fmt.Sprintf("%d\n%s\n%s", id, r, m.head)
		}
	}
	return refusal(404)
}

func (m *model) tile(path string) (int, string) {
	x, e := tile.ParsePath(path)
	if e != api.OK {
		return refusal(400)
	}
	width, _ := tile.Width(x.H, x.L, x.N, int64(len(m.records)))
	if x.H != m.c.Height || x.W > width {
		return refusal(404)
	}
	full := x
	full.W = width
	if file, _ := tile.Path(full); m.dead || m.gone(file) {
		return refusal(500)
	}
	if !x.Data {
		data, _ := tile.FromTree(m.stored, x)
		return 200, string(data)
	}
	data := ""
	for _, r := range m.records[x.N<<x.H:][:x.W] {
		data += string([]byte{byte(len(r) >> 8), byte(len(r))}) + r
	}
	return 200, data
}

// print: an answer in bytes.
func (m *model) print(status int, octets, closing bool, body string) string {
	s := fmt.Sprintf("HTTP/1.1 %d %s\r\n", status, web.Reason(status))
	if octets {
		s += "Content-Type: application/octet-stream\r\n"
	} else {
		s += "Content-Type: text/plain; charset=utf-8\r\n"
	}
	if status == 405 {
		s += "Allow: GET\r\n"
	}
	if closing {
		s += "Connection: close\r\n"
	}
	return s + fmt.Sprintf("Content-Length: %d\r\n\r\n%s", len(body), body)
}

// serve: P15.6.
func (m *model) serve(stream string) string {
	out := ""
	for n := 1; stream != ""; n++ {
		r, size, e := web.ParseRequest([]byte(stream))
		if e == api.ErrShort {
			return out
		}
		if e != api.OK {
			status, body := refusal(web.StatusOf(e))
			return out + m.print(status, false, true, body)
		}
		status, body := m.answer(r.Method, r.Target)
		path, _, _ := web.Path(r.Target)
		out += m.print(status, status == 200 && strings.HasPrefix(path, "/tile/"), r.Close || n == 64, body)
		if r.Close || n == 64 {
			return out
		}
		stream = stream[size:]
	}
	return out
}

var lookupBody = regexp.MustCompile(`^(0|[1-9][0-9]{0,14})\n([^\n]*\n[^\n]*\n)\n((?s:.*))$`)

// parseLookup: P15.4.
func parseLookup(body string) (id int64, record, head string, e api.Errno) {
	parts := lookupBody.FindStringSubmatch(latin(body))
	if parts == nil {
		return 0, "", "", api.ErrBody
	}
	record, head = bytesOf(parts[2]), bytesOf(parts[3])
	fmt.Sscan(parts[1], &id)
	_, _, _, _, bad := modver.ParseRecord(record)
	_, _, worse := note.Split([]byte(head))
	if id >= 1<<48 || bad != api.OK || worse != api.OK {
		return 0, "", "", api.ErrBody
	}
	return id, record, head, api.OK
}

// latin: each byte as the rune of its number, so that a pattern sees bytes alone.
func latin(s string) string {
	runes := make([]rune, len(s))
	for i := range len(s) {
		runes[i] = rune(s[i])
	}
	return string(runes)
}

func bytesOf(latin string) string {
	var b []byte
	for _, r := range latin {
		b = append(b, byte(r))
	}
	return string(b)
}
