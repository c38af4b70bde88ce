package world_test

import (
	"crypto/hmac"
	"crypto/sha256"
	"encoding/base64"
	"encoding/hex"
	"fmt"
	"strings"
	"testing"

	"ledger/api"
	"ledger/world"
)

// sum: the SHA-256 of a word and a number.
func sum(word string, n int) [32]byte { return sha256.Sum256(fmt.Append(nil, word, " ", n)) }

// record: the one that the line add makes.
func record(path, version string, n int) string {
	tree, mod := sum("tree", n), sum("mod", n)
	b := base64.StdEncoding.EncodeToString
	return path + " " + version + " h1:" + b(tree[:]) + "\n" + path + " " + version + "/go.mod h1:" + b(mod[:]) + "\n"
}

// cut: a hash of strength k.
func cut(k int, h [32]byte) [32]byte {
	if k >= 1 && k <= 31 {
		clear(h[k:])
	}
	return h
}

func leaf(k int, record string) [32]byte {
	return cut(k, sha256.Sum256(append([]byte{0}, record...)))
}

// rootOf: RFC 6962's, of these records, with hashes of strength k.
func rootOf(k int, records ...string) [32]byte {
	switch n := len(records); n {
	case 0:
		return cut(k, sha256.Sum256(nil))
	case 1:
		return leaf(k, records[0])
	default:
		half := 1
		for 2*half < n {
			half *= 2
		}
		l, r := rootOf(k, records[:half]...), rootOf(k, records[half:]...)
		return cut(k, sha256.Sum256(append(append([]byte{1}, l[:]...), r[:]...)))
	}
}

// signedText: any text as a note, by the drill's key of a name and a seed.
func signedText(name string, seed int, text string) string {
	s := sum("seed", seed)
	key := sha256.Sum256(s[:])
	hash := sha256.Sum256(append([]byte(name+"\n\x02"), key[:]...))
	m := hmac.New(sha256.New, key[:])
	m.Write([]byte(text))
	return text + "\n\xe2\x80\x94 " + name + " " + base64.StdEncoding.EncodeToString(append(hash[:4:4], m.Sum(nil)...)) + "\n"
}

// headText: a head of so many records.
func headText(origin string, size int, root [32]byte) string {
	return fmt.Sprintf("%s\n%d\n%s\n", origin, size, base64.StdEncoding.EncodeToString(root[:]))
}

// signed: the signed head of a log of strength 32 with these records.
func signed(origin string, seed int, records ...string) string {
	return signedText(origin, seed, headText(origin, len(records), rootOf(32, records...)))
}

// signerText: the text of the drill's key of a name and a seed.
func signerText(name string, seed int) string {
	s := sum("seed", seed)
	key := sha256.Sum256(s[:])
	hash := sha256.Sum256(append([]byte(name+"\n\x02"), key[:]...))
	return "PRIVATE+KEY+" + name + "+" + hex.EncodeToString(hash[:4]) + "+" + base64.StdEncoding.EncodeToString(append([]byte{2}, s[:]...))
}

// quoted: bytes as the story has them, and as a script may.
func quoted(s string) string {
	var out strings.Builder
	for _, c := range []byte(s) {
		if c >= 0x20 && c < 0x7f && c != '"' && c != '\\' {
			out.WriteByte(c)
		} else {
			fmt.Fprintf(&out, "\\x%02x", c)
		}
	}
	return `"` + out.String() + `"`
}

func inHex(h [32]byte) string { return hex.EncodeToString(h[:]) }

// head: the line behind a task, of a log of strength 32.
func head(client string, records ...string) string {
	return fmt.Sprintf("head %s %d %s\n", client, len(records), inHex(rootOf(32, records...)))
}

// failed: a task's first line and the head behind it.
func failed(word, client string, e api.Errno, asked int, records ...string) string {
	return fmt.Sprintf("%s %s error %d asked %d\n", word, client, int(e), asked) + head(client, records...)
}

// found: a look's two lines.
func found(client string, id, asked int, records ...string) string {
	return fmt.Sprintf("look %s ok %d asked %d %s\n", client, id, asked, quoted(records[id])) + head(client, records...)
}

// latest: a latest's two lines, when the head is taken.
func latest(client string, asked int, records ...string) string {
	return fmt.Sprintf("latest %s ok asked %d\n", client, asked) + head(client, records...)
}

// refused: a line that tells an error and nothing else.
func refused(begin string, e api.Errno) string { return fmt.Sprintf("%s error %d\n", begin, int(e)) }

// response: an answer of HTTP with this body.
func response(status, body string) string {
	return fmt.Sprintf("HTTP/1.1 %s\r\nContent-Length: %d\r\n\r\n%s", status, len(body), body)
}

// lookupBody: of a log's answer.
func lookupBody(id int, record, note string) string {
	return fmt.Sprintf("%d\n%s\n%s", id, record, note)
}

// tells: what a line tells in this world.
func tells(t *testing.T, w *world.World, line, want string) {
	t.Helper()
	if got, e := w.Do(line); got != want || e != api.OK {
		t.Errorf("%s tells, with %d,\n%swant\n%s", short(line), int(e), got, want)
	}
}

// does: a line that is a means only; what it tells.
func does(t *testing.T, w *world.World, line string) string {
	t.Helper()
	got, e := w.Do(line)
	if e != api.OK {
		t.Fatalf("%s: %d", short(line), int(e))
	}
	return got
}

// played: a world in which these lines were played, all of them with ok.
func played(t *testing.T, lines ...string) *world.World {
	t.Helper()
	w := world.New()
	for _, line := range lines {
		if got := does(t, w, line); !strings.Contains(got, " ok") {
			t.Fatalf("%s tells %s", short(line), got)
		}
	}
	return w
}

// plays: lines and what each tells, in one world; Run of all lines tells the same, and so does Run of their tidy form.
func plays(t *testing.T, pairs ...string) {
	t.Helper()
	w := world.New()
	script, story := "", ""
	for i := 0; i < len(pairs); i += 2 {
		tells(t, w, pairs[i], pairs[i+1])
		script += pairs[i] + "\n"
		story += pairs[i+1]
	}
	runs(t, script, story)
	tidy, e := world.Tidy(script)
	if e != api.OK {
		t.Errorf("Tidy: %d", int(e))
	}
	runs(t, tidy, story)
}

// runs: what a script tells.
func runs(t *testing.T, script, story string) {
	t.Helper()
	if got, e := world.Run(script); got != story || e != api.OK {
		t.Errorf("Run of %s tells, with %d,\n%swant\n%s", short(script), int(e), got, story)
	}
}

// short: a text for a reader's eyes.
func short(s string) string {
	if len(s) > 100 {
		s = s[:100] + ".."
	}
	return fmt.Sprintf("%q", s)
}

// log, client: lines that make actors as most tests want them.
func logLine(name, origin string, seed int) string {
	return fmt.Sprintf("log %s %s 32 8 2 %d 1000000", name, origin, seed)
}

func clientLine(name, log string) string { return fmt.Sprintf("client %s %s 100000 9", name, log) }
