package client_test

import (
	"bytes"
	"fmt"
	"slices"
	"strings"
	"testing"

	"ledger/api"
	"ledger/cache"
	"ledger/client"
	"ledger/disk"
	"ledger/modver"
	"ledger/note"
	"ledger/server"
	"ledger/tile"
	"ledger/tlog"
	"ledger/web"
)

const (
	origin = "log.example"
	space  = 1 << 26
	limit  = 100000
)

// keysOf: the texts of a drill's keys, which cost little.
func keysOf(name string, seed byte) (signer, verifier string) {
	signer, verifier, e := note.Generate(name, note.AlgDrill, [32]byte{seed})
	if e != api.OK {
		panic(e)
	}
	return signer, verifier
}

// configOf: of a session that asks a book of this strength and height.
func configOf(k, h int) client.Config {
	_, verifier := keysOf(origin, 1)
	return client.Config{Origin: origin, Verifier: verifier, Strength: k, Height: h, Limit: limit}
}

func keyOf(i int) (path, version string) { return fmt.Sprintf("m.example/X%d", i), "v1.0.0-RC1" }

// rec: the record of key i; salts make others of the same key.
func rec(i int, salt ...byte) string {
	path, version := keyOf(i)
	var sum [32]byte
	copy(sum[:], salt)
	r, e := modver.Record(path, version, sum, [32]byte{byte(i)})
	if e != api.OK {
		panic(e)
	}
	return r
}

func recs(from, to int, salt ...byte) []string {
	var out []string
	for i := from; i < to; i++ {
		out = append(out, rec(i, salt...))
	}
	return out
}

// book: the records of a log, that can be asked as of each size that it had.
type book struct {
	k, h           int
	origin, signer string
	records        []string
	stored         []api.Hash
}

// newBook: a log that a session of configOf(k, h) would ask.
func newBook(k, h int, records ...string) *book {
	signer, _ := keysOf(origin, 1)
	b := &book{k: k, h: h, origin: origin, signer: signer, records: records}
	var leaves []api.Hash
	for _, r := range records {
		leaves = append(leaves, tlog.LeafHash(k, []byte(r)))
	}
	b.stored, _ = tlog.Build(k, leaves)
	return b
}

// signedBy: the same records with another key or origin.
func (b *book) signedBy(signer, origin string) *book {
	other := *b
	other.signer, other.origin = signer, origin
	return &other
}

func (b *book) root(n int) api.Hash {
	root, e := tlog.Root(b.k, b.stored, int64(n))
	if e != api.OK {
		panic(e)
	}
	return root
}

func (b *book) head(n int) note.Head {
	return note.Head{Origin: b.origin, Size: int64(n), Root: b.root(n)}
}

func signText(text string, signers ...string) string {
	m, e := note.Sign(text, signers)
	if e != api.OK {
		panic(e)
	}
	return string(m)
}

func signHead(h note.Head, signers ...string) string {
	text, e := note.FormatHead(h)
	if e != api.OK {
		panic(e)
	}
	return signText(text, signers...)
}

// note: the signed head of the first n records.
func (b *book) note(n int) string { return signHead(b.head(n), b.signer) }

// body: of a lookup of record i as of n.
func (b *book) body(i, n int) string { return fmt.Sprintf("%d\n%s\n%s", i, b.records[i], b.note(n)) }

func (b *book) find(key string, n int) int {
	return slices.IndexFunc(b.records[:n], func(r string) bool {
		path, version, _, _, _ := modver.ParseRecord(r)
		return path+"@"+version == key
	})
}

// data: the bytes of a hash tile as of n; false, if it lies beyond.
func (b *book) data(t tile.Tile, n int) (string, bool) {
	count, _ := tlog.Count(int64(n))
	data, e := tile.FromTree(b.stored[:count], t)
	return string(data), e == api.OK && t.H == b.h
}

func answerOf(status int, body string) []byte {
	b, e := web.FormatResponse(web.Response{Status: status, Minor: 1, Body: []byte(body)})
	if e != api.OK {
		panic(e)
	}
	return b
}

func ok(body string) []byte { return answerOf(200, body) }

// tell: status and body for a target, as a log of the first n records tells them.
func (b *book) tell(target string, n int) (int, string) {
	if target == "/latest" {
		return 200, b.note(n)
	}
	if key, isLookup := strings.CutPrefix(target, "/lookup/"); isLookup {
		p, v, _ := strings.Cut(key, "@")
		path, _ := modver.UnescapePath(p)
		version, _ := modver.UnescapeVersion(v)
		if i := b.find(path+"@"+version, n); i >= 0 {
			return 200, b.body(i, n)
		}
		return 404, "Not Found\n"
	}
	if t, e := tile.ParsePath(target[1:]); e == api.OK && !t.Data {
		if data, has := b.data(t, n); has {
			return 200, data
		}
	}
	return 404, "Not Found\n"
}

func (b *book) answer(request []byte, n int) []byte {
	return answerOf(b.tell(targetOf(request), n))
}

func targetOf(request []byte) string {
	target, whole := strings.CutPrefix(string(request), "GET ")
	target, end := strings.CutSuffix(target, " HTTP/1.1\r\nHost: ledger\r\n\r\n")
	if !whole || !end {
		return fmt.Sprintf("no request: %q", request)
	}
	return target
}

func targetsIn(requests [][]byte) string {
	var out []string
	for _, w := range requests {
		out = append(out, targetOf(w))
	}
	return strings.Join(out, " ")
}

func targetsOf(c *client.Client) string { return targetsIn(c.Wants()) }

// asker: whoever wants answers, by a session or by a model too.
type asker interface {
	Wants() [][]byte
	Give([][]byte) api.Errno
}

// round: all that is wanted now is answered by the book as of n.
func round(c asker, b *book, n int) {
	var answers [][]byte
	for _, w := range c.Wants() {
		answers = append(answers, b.answer(w, n))
	}
	c.Give(answers)
}

// rounds: as many as there are wants.
func rounds(c asker, b *book, n int) {
	for range 3 {
		if len(c.Wants()) > 0 {
			round(c, b, n)
		}
	}
}

func loaded(t *testing.T, files ...disk.File) *disk.Disk {
	t.Helper()
	d, e := disk.Load(space, files)
	if e != api.OK {
		t.Fatal(e)
	}
	return d
}

func headFile(head string) disk.File {
	return disk.File{Name: "cache/a/head", Data: []byte(head)}
}

func opened(t *testing.T, d *disk.Disk, room int) *cache.Cache {
	t.Helper()
	f, e := cache.Open(d, "a", room)
	if e != api.OK {
		t.Fatal(e)
	}
	return f
}

// begun: a session on an empty disk.
func begun(t *testing.T, c client.Config) (*client.Client, *cache.Cache, *disk.Disk) {
	t.Helper()
	d := loaded(t)
	f := opened(t, d, 100)
	s, e := client.New(c, f)
	if s == nil || e != api.OK {
		t.Fatalf("New = %v, %d", s != nil, int(e))
	}
	return s, f, d
}

// at: a session that trusts the book's head of n records.
func at(t *testing.T, c client.Config, b *book, n int) (*client.Client, *cache.Cache, *disk.Disk) {
	t.Helper()
	s, f, d := begun(t, c)
	s.Merge([]byte(b.note(n)))
	if s.Result().Err != api.OK || s.Head() != b.head(n) {
		t.Fatalf("Merge: %+v", s.Result())
	}
	return s, f, d
}

func want(t *testing.T, what string, got, e api.Errno) {
	t.Helper()
	if got != e {
		t.Errorf("%s = %d; want %d", what, int(got), int(e))
	}
}

func wants(t *testing.T, what string, c *client.Client, targets ...string) {
	t.Helper()
	if got := targetsOf(c); got != strings.Join(targets, " ") {
		t.Errorf("%s: wants %q; want %q", what, got, targets)
	}
}

// results: the task has ended so, and tells nothing but this.
func results(t *testing.T, what string, c *client.Client, r client.Result) {
	t.Helper()
	if got := c.Result(); tell(got) != tell(r) {
		t.Errorf("%s: Result = %s; want %s", what, tell(got), tell(r))
	}
	if len(c.Wants()) != 0 {
		t.Errorf("%s: has ended and wants %q", what, targetsOf(c))
	}
}

func refused(t *testing.T, what string, c *client.Client, e api.Errno) {
	t.Helper()
	results(t, what, c, client.Result{Err: e})
}

// tell: any value as a text, nil and empty lists alike.
func tell(v any) string { return fmt.Sprintf("%+v", v) }

// filesOf: all of a disk as a text.
func filesOf(d *disk.Disk) string {
	var out strings.Builder
	for _, x := range d.Files() {
		out.WriteString(x.Name + "=" + string(x.Data) + "\n")
	}
	return out.String()
}

// told: all that a session and its files tell, but for what is wanted and the result.
func told(c *client.Client, f *cache.Cache, d *disk.Disk) string {
	return fmt.Sprintf("%+v\n%q\n%+v\n%q\n%v\n%s", c.Head(), c.Note(), c.Facts(), f.Head(), f.List(), filesOf(d))
}

// toldOn: the same of a model.
func (m *model) toldOn(d *disk.Disk) string {
	return fmt.Sprintf("%+v\n%q\n%+v\n%q\n%v\n%s", m.head, m.note, m.facts, m.files.Head(), m.files.List(), filesOf(d))
}

// unlike: a copy with one bit turned.
func unlike(b []byte, at int) []byte {
	b = bytes.Clone(b)
	b[at] ^= 1
	return b
}

// logOf: a server over a disk of its own, with these records.
func logOf(t *testing.T, b *book, n int) *server.Server {
	t.Helper()
	d := loaded(t)
	s, e := server.Create(d, b.storeConfig())
	if e != api.OK {
		t.Fatal(e)
	}
	for list := range slices.Chunk(b.records[:n], api.MaxBatch) {
		if _, e := s.Append(list); e != api.OK {
			t.Fatal(e)
		}
	}
	return s
}
