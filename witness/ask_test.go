package witness_test

import (
	"encoding/base64"
	"fmt"
	"math"
	"math/big"
	"math/rand"
	"regexp"
	"slices"
	"strings"
	"testing"

	"ledger/api"
	"ledger/note"
	"ledger/witness"
)

const (
	small    = "a\n\n\u2014 a AAAAB3g=\n"
	zeroLine = "AAAAAAAAAAAAAAAAAAAAAAAAAAAAAAAAAAAAAAAAAAA=\n"
)

var askForm = regexp.MustCompile(`\Aold (0|[1-9][0-9]*)\n((?:[A-Za-z0-9+/]{43}=\n)*)\n`)

// parts: those of an ask, by the chapter's words; false, if it is none.
func parts(ask []byte) (old int64, path []api.Hash, head []byte, ok bool) {
	found := askForm.FindSubmatch(ask)
	if found == nil || len(ask) > 69000 || len(found[2]) > 64*len(zeroLine) {
		return 0, nil, nil, false
	}
	n, _ := new(big.Int).SetString(string(found[1]), 10)
	if n.Cmp(big.NewInt(1<<48)) > 0 {
		return 0, nil, nil, false
	}
	for line := range strings.Lines(string(found[2])) {
		b, err := base64.StdEncoding.Strict().DecodeString(line[:44])
		if err != nil || len(b) != 32 {
			return 0, nil, nil, false
		}
		path = append(path, api.Hash(b))
	}
	head = ask[len(found[0]):]
	if _, _, e := note.Split(head); e != api.OK {
		return 0, nil, nil, false
	}
	return n.Int64(), path, slices.Clone(head), true
}

// checkParse: ParseAsk answers what the chapter's words say, and FormatAsk gives an ask back.
func checkParse(t *testing.T, ask string) bool {
	t.Helper()
	old, path, head, e := witness.ParseAsk([]byte(ask))
	n, hashes, m, ok := parts([]byte(ask))
	answer := api.OK
	if len(ask) > 69000 {
		answer = api.ErrLong
	} else if !ok {
		answer = api.ErrAsk
	}
	if e != answer || old != n || !slices.Equal(path, hashes) || string(head) != string(m) {
		t.Fatalf("ParseAsk(%.200q) = %d, %d hashes, %.60q, %d; want %d, %d hashes, %.60q, %d", ask, old, len(path), head, int(e), n, len(hashes), m, int(answer))
	}
	if ok {
		if again, e := witness.FormatAsk(old, path, head); string(again) != ask || e != api.OK {
			t.Fatalf("FormatAsk of the parts of %.200q = %.200q, %d", ask, again, int(e))
		}
	}
	return ok
}

// someHashes: n of them, no two alike.
func someHashes(n int) []api.Hash {
	var out []api.Hash
	for i := range n {
		out = append(out, api.Hash{byte(i), 31: byte(255 - i)})
	}
	return out
}

// longNote: a note of just so many bytes, whose text is "a" and a line's end: with the bytes of its signature, and its name to make up for the fours of base64.
func longNote(size int) string {
	name := 1
	for (size-len("a\n\n\u2014  \n")-name)%4 != 0 {
		name++
	}
	letters := size - len("a\n\n\u2014  \n") - name
	return "a\n\n\u2014 " + strings.Repeat("n", name) + " " + strings.Repeat("A", letters) + "\n"
}

func TestFormatAsk(t *testing.T) { // P21.5: the lines, at every number of hashes; read again
	for _, head := range []string{small, "\n" + "\n\u2014 a AAAAB3g=\n", "old 1\n\nb\n" + small, zeroLine + small, string(trunk().signed(5)), longNote(65536)} {
		for n := range 65 {
			for _, old := range []int64{0, 1, 9, 10, 1<<48 - 1, 1 << 48} {
				path := someHashes(n)
				ask, e := witness.FormatAsk(old, path, []byte(head))
				said := fmt.Sprintf("old %d\n", old)
				for _, h := range path {
					said += base64.StdEncoding.EncodeToString(h[:]) + "\n"
				}
				if said += "\n" + head; string(ask) != said || e != api.OK {
					t.Fatalf("FormatAsk(%d, %d hashes, %.30q) = %.200q, %d", old, n, head, ask, int(e))
				}
				if n%16 == 0 && !checkParse(t, said) {
					t.Fatalf("%.200q is no ask", said)
				}
			}
		}
	}
}

func TestFormatAskRefuses(t *testing.T) { // P21.5, P0.1: ErrArg, ErrLong, ErrAsk, in this order
	long := longNote(65537)
	for _, x := range []struct {
		old  int64
		n    int
		head string
		e    api.Errno
	}{
		{-1, 0, small, api.ErrArg}, {math.MinInt64, 0, small, api.ErrArg}, {1<<48 + 1, 0, small, api.ErrArg}, {math.MaxInt64, 0, small, api.ErrArg}, {-1, 65, "", api.ErrArg}, {-1, 0, long, api.ErrArg}, {1<<48 + 1, 65, long, api.ErrArg},
		{0, 65, small, api.ErrLong}, {0, 65, "x", api.ErrLong}, {0, 1000, small, api.ErrLong}, {0, 0, long, api.ErrLong}, {0, 0, strings.Repeat("x", 65537), api.ErrLong}, {1 << 48, 64, strings.Repeat("x", 1<<21), api.ErrLong},
		{0, 0, "", api.ErrAsk}, {0, 64, "x", api.ErrAsk}, {0, 0, strings.Repeat("x", 65536), api.ErrAsk}, {0, 0, small[:len(small)-1], api.ErrAsk}, {0, 0, small + "\n", api.ErrAsk}, {0, 0, "a\n", api.ErrAsk}, {0, 0, textOf(trunk().head(1)), api.ErrAsk},
	} {
		if ask, e := witness.FormatAsk(x.old, make([]api.Hash, x.n), []byte(x.head)); len(ask) != 0 || e != x.e {
			t.Errorf("FormatAsk(%d, %d hashes, %.20q) = %.20q, %d; want %d", x.old, x.n, x.head, ask, int(e), int(x.e))
		}
	}
}

func TestParseAsk(t *testing.T) { // P21.5: first lines, hash lines, notes that may stand there and that may not
	asks := 0
	check := func(ask string) {
		t.Helper()
		if checkParse(t, ask) {
			asks++
		}
	}
	for _, first := range []string{"", "old", "old ", "old 0", "old 7", "old 10", "old 281474976710656", "old 281474976710657", "old 99999999999999999999999", "old 07", "old 00", "old -1", "old -0", "old +1", "old 1 ", "old  1", "old 1\r", "old\t1", "Old 1", "OLD 1", "new 1", "ol 1", "oldd 1", " old 1", "old 1x", "old x", "old 1.0", "old 0x1", "1", "old 1\x00", "\xffold 1", "old \u0661"} {
		check(first + "\n\n" + small)
		check(first + "\n" + zeroLine + "\n" + small)
		check(first)
		check(first + "\n")
		check(first + small)
	}
	if asks != 8 {
		t.Errorf("%d of the first lines begin an ask", asks)
	}
	z := zeroLine[:44]
	for _, line := range []string{z, z[:43] + "B", z[:42] + "E=", z[:42] + "B=", z[:42] + "C=", z[:42] + "/=", z[:42] + "==", z[:43], z[1:], z + "=", "A" + z, z + " ", " " + z, z + "\r", z[:40], "", "AAAA", z + z, z[:41] + "-A=", z[:41] + "_A=", z[:20] + "=" + z[21:], strings.Repeat("A", 44), strings.Repeat("A", 48), z[:43] + "\x00", "\u2014 a AAAAB3g="} {
		check("old 7\n" + line + "\n\n" + small)
		check("old 7\n" + zeroLine + line + "\n\n" + small)
		check("old 7\n" + line + "\n" + zeroLine + "\n" + small)
	}
	for n := range 70 {
		check("old 7\n" + strings.Repeat(zeroLine, n) + "\n" + small)
		check("old 7\n" + strings.Repeat(zeroLine, n) + small)
		check("old 7\n" + strings.Repeat(zeroLine, n))
	}
	for _, rest := range []string{"", "\n", "\n\n", "\n" + small, "\n\n" + small, "a\n" + small, small + "x", small[:len(small)-1], small + small, "a\n", "a", "hello\n\n", "\n\u2014 a AAAAB3g=\n", "\n\n\u2014 a AAAAB3g=\n", zeroLine + small, longNote(65536), longNote(65537), longNote(68000), "a\x00" + small, "\xff" + small} {
		check("old 7\n\n" + rest)
		check("old 7\n" + zeroLine + "\n" + rest)
		check("old 7\n" + rest)
	}
	if asks < 90 {
		t.Errorf("%d asks were found", asks)
	}
}

func TestParseAskByTheLength(t *testing.T) { // P21.5, P0.1: 69000 bytes, whatever they are
	for _, size := range []int{68999, 69000, 69001, 1 << 21} {
		for _, fill := range []string{"o", "\n", "\x00", zeroLine, "old 0\n"} {
			ask := "old 0\n\n" + strings.Repeat(fill, size)
			if checkParse(t, ask[:size]) {
				t.Errorf("%d bytes of %q are an ask", size, fill)
			}
		}
	}
	greatest := "old 281474976710656\n" + strings.Repeat(zeroLine, 64) + "\n" + longNote(65536)
	if !checkParse(t, greatest) {
		t.Errorf("the greatest ask, of %d bytes, is none", len(greatest))
	}
}

func TestAsksWithAByteAmiss(t *testing.T) { // P21.5: every byte changed, gone, doubled; every end cut off
	asks := 0
	for _, ask := range []string{"old 7\n\n" + small, "old 120\n" + zeroLine + strings.ReplaceAll(zeroLine, "AAAA", "x/+9") + "\n" + small} {
		for i := range len(ask) {
			changed := []string{ask[:i], ask[:i] + ask[i+1:], ask[:i] + ask[i:i+1] + ask[i:], ask[i:]}
			for _, c := range "\n 0179aAbZ=+/\r\x00-" {
				changed = append(changed, ask[:i]+string(c)+ask[i+1:], ask[:i]+string(c)+ask[i:])
			}
			changed = append(changed, ask[:i]+"\xff"+ask[i+1:], ask[:i]+string(ask[i]^0x20)+ask[i+1:])
			for _, c := range changed {
				if checkParse(t, c) {
					asks++
				}
			}
		}
	}
	if asks < 300 {
		t.Errorf("%d asks were found", asks)
	}
}

func TestAnyAsks(t *testing.T) { // P21.5, P0.1: pieces of asks in any order
	pieces := []string{"old ", "old 0\n", "7", "0", "\n", "\n\n", zeroLine, zeroLine, zeroLine[:43], small, small, "a", "\u2014 a AAAAB3g=\n", "281474976710656", " "}
	r := rand.New(rand.NewSource(21))
	asks := 0
	for range 100000 {
		var s strings.Builder
		if r.Intn(3) > 0 {
			s.WriteString("old 7\n")
		}
		for range r.Intn(6) {
			s.WriteString(pieces[r.Intn(len(pieces))])
		}
		if checkParse(t, s.String()) {
			asks++
		}
	}
	if asks < 500 {
		t.Errorf("%d asks were found", asks)
	}
}
