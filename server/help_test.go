package server_test

import (
	"bytes"
	"crypto/sha256"
	"encoding/hex"
	"fmt"
	"strings"
	"testing"

	"ledger/api"
	"ledger/disk"
	"ledger/modver"
	"ledger/note"
	"ledger/server"
	"ledger/store"
	"ledger/tlog"
)

const room = 1 << 26

// recordOf: of a path and a version, with sums that hang on them and on the salt.
func recordOf(path, version string, salt ...byte) string {
	tree := sha256.Sum256(append([]byte(path+"@"+version), salt...))
	r, e := modver.Record(path, version, tree, [32]byte{1})
	if e != api.OK {
		panic(e)
	}
	return r
}

// rec: record number n. Records of one n and unlike salts have one key.
func rec(n int, salt ...byte) string { return recordOf(pathOf(n), "v1.0.0", salt...) }

func pathOf(n int) string { return fmt.Sprintf("m.example/x%d", n) }

func keyOf(n int) string { return pathOf(n) + "@v1.0.0" }

// recs: the records from a to b - 1.
func recs(a, b int) []string {
	var out []string
	for n := a; n < b; n++ {
		out = append(out, rec(n))
	}
	return out
}

// three: the records of the chapter's examples.
func three() []string {
	return []string{recordOf("a.com", "v1.0.0"), recordOf("a.com/X", "v1.0.0-RC1"), recordOf("b.org/v2", "v2.0.0")}
}

// keyIn: as the record's own words tell it.
func keyIn(record string) string {
	words := strings.Fields(record)
	return words[0] + "@" + words[1]
}

func signerOf(alg int, seed byte) string {
	s, _, e := note.Generate("log.example", alg, [32]byte{seed})
	if e != api.OK {
		panic(e)
	}
	return s
}

func config(height int) store.Config {
	return store.Config{Origin: "log.example", Signer: signerOf(note.AlgDrill, 3), Height: height}
}

func made(t *testing.T) *disk.Disk {
	t.Helper()
	d, e := disk.New(room)
	if e != api.OK {
		t.Fatal(e)
	}
	return d
}

func loaded(t *testing.T, files []disk.File) *disk.Disk {
	t.Helper()
	d, e := disk.Load(room, files)
	if e != api.OK {
		t.Fatal(e)
	}
	return d
}

// begun: a server over a new log of these records, put in by batches.
func begun(t *testing.T, c store.Config, records ...string) (*disk.Disk, *server.Server) {
	t.Helper()
	d := made(t)
	s, e := server.Create(d, c)
	if s == nil || e != api.OK {
		t.Fatalf("Create = %v, %d", s, int(e))
	}
	for len(records) > 0 {
		n := min(len(records), api.MaxBatch)
		if _, e := s.Append(records[:n]); e != api.OK {
			t.Fatalf("Append = %d", int(e))
		}
		records = records[n:]
	}
	return d, s
}

func storedOf(k int, records []string) []api.Hash {
	var leaves []api.Hash
	for _, r := range records {
		leaves = append(leaves, tlog.LeafHash(k, []byte(r)))
	}
	stored, e := tlog.Build(k, leaves)
	if e != api.OK {
		panic(e)
	}
	return stored
}

func rootOf(k int, records []string) api.Hash {
	root, e := tlog.Root(k, storedOf(k, records), int64(len(records)))
	if e != api.OK {
		panic(e)
	}
	return root
}

// headOf: the signed head of a log of these records.
func headOf(c store.Config, records []string) string {
	text, e := note.FormatHead(note.Head{Origin: c.Origin, Size: int64(len(records)), Root: rootOf(c.Strength, records)})
	if e != api.OK {
		panic(e)
	}
	head, e := note.Sign(text, []string{c.Signer})
	if e != api.OK {
		panic(e)
	}
	return string(head)
}

// bodyOf: of the lookup of a log's record.
func bodyOf(c store.Config, records []string, id int) string {
	return fmt.Sprintf("%d\n%s\n%s", id, records[id], headOf(c, records))
}

// told: all that a disk tells, as a text.
func told(d *disk.Disk) string {
	var s strings.Builder
	for _, f := range d.Files() {
		s.WriteString(f.Name + "=" + hex.EncodeToString(f.Data) + "\n")
	}
	fmt.Fprintln(&s, d.Acts(), d.Pending(), d.Used())
	return s.String()
}

// wire: a vertical bar stands for a line's end of two bytes, a caret for one of one byte.
func wire(s string) string { return strings.NewReplacer("|", "\r\n", "^", "\n").Replace(s) }

// get: a request as others print it.
func get(target string) string { return "GET " + target + " HTTP/1.1\r\nHost: a\r\n\r\n" }

// answers: Answer, with that status and body.
func answers(t *testing.T, s *server.Server, method, target string, status int, body string) {
	t.Helper()
	if got, b := s.Answer(method, target); got != status || string(b) != body {
		t.Errorf("Answer(%.80q, %.80q) = %d, %.80q; want %d, %.80q", method, target, got, b, status, body)
	}
}

// refuses: Answer, with that status and the body of its refusal.
func refuses(t *testing.T, s *server.Server, status int, method string, targets ...string) {
	t.Helper()
	words := map[int]string{400: "Bad Request\n", 404: "Not Found\n", 405: "Method Not Allowed\n", 500: "Internal Server Error\n"}
	for _, target := range targets {
		answers(t, s, method, target, status, words[status])
	}
}

// serves: Serve, with those bytes.
func serves(t *testing.T, s *server.Server, stream, want string) {
	t.Helper()
	if got := s.Serve([]byte(stream)); string(got) != want {
		t.Errorf("Serve(%.200q) = %.300q; want %.300q", stream, got, want)
	}
}

// edits: the text with each byte gone, replaced by each of the pieces, and with each of them put in ahead of it or at the end.
func edits(s string, pieces ...string) []string {
	var l []string
	for i := range len(s) + 1 {
		for _, piece := range pieces {
			l = append(l, s[:i]+piece+s[i:])
			if i < len(s) {
				l = append(l, s[:i]+piece+s[i+1:])
			}
		}
		if i < len(s) {
			l = append(l, s[:i]+s[i+1:])
		}
	}
	return l
}

// isLog: all that a server tells of its log without being asked for a tile.
func isLog(t *testing.T, what string, s *server.Server, c store.Config, records []string) {
	t.Helper()
	if s.Size() != int64(len(records)) || string(s.Head()) != headOf(c, records) {
		t.Fatalf("%s: Size %d, Head %q; want %d records", what, s.Size(), s.Head(), len(records))
	}
	for i, r := range records {
		if b, e := s.Lookup(keyIn(r)); string(b) != bodyOf(c, records, i) || e != api.OK {
			t.Errorf("%s: Lookup(%s) = %q, %d", what, keyIn(r), b, int(e))
		}
	}
	if status, b := s.Answer("GET", "/latest"); status != 200 || !bytes.Equal(b, s.Head()) {
		t.Errorf("%s: /latest: %d, %q", what, status, b)
	}
}
