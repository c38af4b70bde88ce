package world_test

import (
	"crypto/ed25519"
	"crypto/sha256"
	"encoding/base64"
	"fmt"
	"strings"
	"testing"

	"ledger/api"
	"ledger/world"
)

func TestMadeLogs(t *testing.T) { // P20.3: which log is made, and which is not
	long := strings.Repeat("o", 100)
	for _, c := range []struct {
		line string
		e    api.Errno
	}{
		{"log a o 32 8 2 1 1000000", api.OK}, {"log a o 0 1 1 0 1000000", api.OK}, {"log a o 99 1 2 2147483648 1099511627776", api.OK}, {"log a " + long + " 32 1 2 1 1000000", api.OK}, {`log a "\xc3\xa9" 32 1 2 1 1000000`, api.OK},
		{"log a " + long + "o 32 8 2 1 1000000", api.ErrName}, {`log a "" 32 8 2 1 1000000`, api.ErrName}, {`log a "a b" 32 8 2 1 1000000`, api.ErrName}, {"log a a+b 32 8 2 1 1000000", api.ErrName}, {`log a "\xff" 32 8 2 1 1000000`, api.ErrName},
		{"log a o 32 8 0 1 1000000", api.ErrAlg}, {"log a o 32 8 3 1 1000000", api.ErrAlg}, {"log a o 32 8 99 1 1000000", api.ErrAlg},
		{"log a o 32 0 2 1 1000000", api.ErrConfig}, {"log a o 32 9 2 1 1000000", api.ErrConfig},
		{"log a o 32 8 2 1 0", api.ErrFull}, {"log a o 32 8 2 1 50", api.ErrFull},
		{"log a a+b 32 9 3 1 0", api.ErrName}, {"log a o 32 9 3 1 0", api.ErrAlg}, {"log a o 32 9 2 1 0", api.ErrConfig},
	} {
		w := world.New()
		if c.e == api.OK {
			tells(t, w, c.line, "log a ok\n")
			continue
		}
		tells(t, w, c.line, refused("log a", c.e))
		tells(t, w, "head a", "head a nobody\n") // an error makes no actor
		tells(t, w, "open a", "open a nobody\n")
		tells(t, w, logLine("a", "o", 1), "log a ok\n")
	}
}

func TestHeadOfALog(t *testing.T) { // P20.3: both algorithms, the seed, the strength, the size
	r := record("m.example/a", "v1.0.0", 3)
	for _, c := range []struct{ k, seed int }{{32, 0}, {0, 5}, {99, 1 << 31}, {31, 7}, {1, 7}} {
		w := played(t, fmt.Sprintf("log a log.example %d 1 2 %d 1000000", c.k, c.seed))
		for n := range 2 {
			records := []string{r}[:n]
			note := signedText("log.example", c.seed, headText("log.example", n, rootOf(c.k, records...)))
			tells(t, w, "head a", fmt.Sprintf("head a %d %s\n", n, quoted(note)))
			does(t, w, "add a m.example/a v1.0.0 3")
		}
	}
	seed := sum("seed", 9)
	key := ed25519.NewKeyFromSeed(seed[:])
	text := headText("log.example", 0, rootOf(32))
	hash := sha256.Sum256(append([]byte("log.example\n\x01"), key.Public().(ed25519.PublicKey)...))
	sig := base64.StdEncoding.EncodeToString(append(hash[:4:4], ed25519.Sign(key, []byte(text))...))
	w := played(t, "log a log.example 32 1 1 9 1000000")
	tells(t, w, "head a", "head a 0 "+quoted(text+"\n\xe2\x80\x94 log.example "+sig+"\n")+"\n")
}

func TestAddAndPut(t *testing.T) { // P20.3: the records, their ids, and nothing of a line with an error
	a0, a1, b0 := record("m.example/a", "v1.0.0", 0), record("m.example/a", "v1.1.0", 1<<31), record("m.example/b", "v1.0.0", 7)
	w := played(t, logLine("a", "log.example", 1))
	same := func(records ...string) {
		t.Helper()
		tells(t, w, "head a", fmt.Sprintf("head a %d %s\n", len(records), quoted(signed("log.example", 1, records...))))
	}
	tells(t, w, "add a m.example/a v1.0.0 0", "add a ok 0\n")
	same(a0)
	tells(t, w, "add a m.example/a v1.0.0 0 m.example/a v1.1.0 2147483648 m.example/a v1.1.0 4", "add a ok 0 1 1\n")
	same(a0, a1)
	tells(t, w, "put a "+quoted(b0)+" "+quoted(a1)+" "+quoted(record("m.example/b", "v1.0.0", 8)), "put a ok 2 1 2\n")
	same(a0, a1, b0)
	tells(t, w, `add a "m.example/a" "v1.0.0" 5`, "add a ok 0\n")
	for line, e := range map[string]api.Errno{
		"add a m.example/c v1.0.0 1 m.example v2.0.0 1 A v1.0.0 1": api.ErrVersion, "add a m.example/c v1.0.0 1 A v1 1 m.example v2.0.0 1": api.ErrModPath, `add a "" v1.0.0 1`: api.ErrModPath,
		"put a " + quoted(record("m.example/c", "v1.0.0", 1)) + " x": api.ErrRecord, `put a ""`: api.ErrRecord, "put a " + quoted(a0+a0): api.ErrRecord, "put a " + quoted(strings.Replace(b0, "h1:", "h2:", 1)): api.ErrSum,
	} {
		tells(t, w, line, refused(line[:5], e))
	}
	same(a0, a1, b0)
	tells(t, w, "ask a "+quoted("GET /lookup/m.example/b@v1.0.0 HTTP/1.0\r\n\r\n"), "ask a "+quoted("HTTP/1.1 200 OK\r\nContent-Type: text/plain; charset=utf-8\r\nConnection: close\r\n"+fmt.Sprintf("Content-Length: %d\r\n\r\n", len(lookupBody(2, b0, signed("log.example", 1, a0, a1, b0))))+lookupBody(2, b0, signed("log.example", 1, a0, a1, b0)))+"\n")
}

func TestManyRecordsInALine(t *testing.T) { // P20.3: 64 of them, by add and by put
	var records []string
	added, put, ids := "add a", "put b", ""
	for i := range 64 {
		version := fmt.Sprintf("v1.%d.0", i)
		added += fmt.Sprintf(" m.example/a %s %d", version, i)
		records = append(records, record("m.example/a", version, i))
		put += " " + quoted(records[i])
		ids += fmt.Sprint(" ", i)
	}
	note := quoted(signed("log.example", 1, records...))
	plays(t,
		logLine("a", "log.example", 1), "log a ok\n", logLine("b", "log.example", 1), "log b ok\n",
		added, "add a ok"+ids+"\n", put, "put b ok"+ids+"\n",
		"head a", "head a 64 "+note+"\n", "head b", "head b 64 "+note+"\n",
	)
}

func TestAsk(t *testing.T) { // P20.3: what Serve answers, of any bytes
	notFound := "HTTP/1.1 404 Not Found\r\nContent-Type: text/plain; charset=utf-8\r\nContent-Length: 10\r\n\r\nNot Found\n"
	request := "GET / HTTP/1.1\r\nHost: a\r\n\r\n"
	bad := "HTTP/1.1 400 Bad Request\r\nContent-Type: text/plain; charset=utf-8\r\nConnection: close\r\nContent-Length: 12\r\n\r\nBad Request\n"
	plays(t,
		logLine("a", "log.example", 1), "log a ok\n",
		"ask a "+quoted(request), "ask a "+quoted(notFound)+"\n",
		"ask a "+quoted(request+request), "ask a "+quoted(notFound+notFound)+"\n",
		"ask a "+quoted("GET / HTTP/1.1\r\n\r\n"+request), "ask a "+quoted(bad)+"\n",
		"ask a "+quoted(request[:20]), `ask a ""`+"\n",
		`ask a ""`, `ask a ""`+"\n",
		"ask a GET", `ask a ""`+"\n",
	)
}
