package web_test

import (
	"bytes"
	"strconv"
	"strings"
	"testing"

	"ledger/api"
	"ledger/web"
)

func TestSmallChunks(t *testing.T) { // P14.2: every text of some pieces
	for _, s := range eachOf(7, "0", "2", "\r", "\n", "a;") {
		unchunkAsTold(t, s)
	}
	for _, s := range eachOf(5, "0\r\n", "1\n", "\r\n", "x", "a", "\x00", ";") {
		unchunkAsTold(t, s)
	}
}

func TestNearbyChunks(t *testing.T) { // P14.2, P14.7
	for _, in := range []string{"0||", "3|abc|0||", "2;x=y^\r\n^00a|0123456789|000;|^", "1|a|1|b|F;\t\xff|0123456789abcde|0||"} {
		s := string(wire(in))
		size, e := unchunkAsTold(t, s)
		if e != api.OK || size != len(s) {
			t.Errorf("Unchunk(%q): %d, %d", in, size, int(e))
		}
		for i := range len(s) {
			if b, n, e := web.Unchunk([]byte(s[:i])); len(b) != 0 || n != 0 || e != api.ErrShort {
				t.Errorf("Unchunk(%q), cut at %d: %q, %d, %d", in, i, b, n, int(e))
			}
		}
		for _, near := range edits(s, oddBytes()...) {
			unchunkAsTold(t, near)
		}
	}
}

func TestEachByteOfChunks(t *testing.T) { // P14.2
	for c := range 256 {
		for _, form := range []string{"?|0123456789abcdef|0||", "0?|0123456789abcdef|0||", "1?|", "1;?|a|0||", "1;a?b|a|0||", "1|?|0||", "1|a?", "1|a?^0||", "1|a|0?||", "1|a|0|?", "1|a|0|?^", "1|a|0||?", "?", "0?^", "0^?^"} {
			unchunkAsTold(t, strings.Replace(string(wire(form)), "?", string([]byte{byte(c)}), 1))
		}
	}
}

func TestChunkLines(t *testing.T) { // P14.2: their lengths, and the digits of a size
	for n := 250; n <= 262; n++ {
		for _, end := range []string{"", "\n", "\r", "\r\n", "\r\r\n", "\n\n", "\r\n\r\n", "x\n\n"} {
			for _, line := range []string{"0;" + strings.Repeat("x", n-2), strings.Repeat("0", n), strings.Repeat("\x00", n), "1|a|0;" + strings.Repeat("x", n-2)} {
				unchunkAsTold(t, string(wire(line))+end)
			}
		}
	}
	for n := range 20 {
		unchunkAsTold(t, strings.Repeat("0", n)+"\r\n\r\n")
		unchunkAsTold(t, strings.Repeat("0", n)+"1\r\na\r\n0\n\n")
		unchunkAsTold(t, strings.Repeat("0", n)+"1;\r\na\r\n0;\n\n")
		unchunkAsTold(t, "1"+strings.Repeat("0", n)+"\r\n")
		unchunkAsTold(t, strings.Repeat("f", n)+"\r\n")
	}
	for _, n := range []int{258, 1000, 1 << 21} {
		if b, m, e := web.Unchunk(bytes.Repeat([]byte("0"), n)); len(b) != 0 || m != 0 || e != api.ErrChunk {
			t.Errorf("Unchunk of %d digits: %d, %d", n, m, int(e))
		}
	}
}

func TestSizesOfChunks(t *testing.T) { // P14.2: in either case, alone and together
	for n := range 700 {
		for _, digits := range []string{strconv.FormatInt(int64(n), 16), strings.ToUpper(strconv.FormatInt(int64(n), 16))} {
			unchunkAsTold(t, digits+"\r\n"+strings.Repeat("z", n)+"\r\n0\r\n\r\n")
		}
	}
	all := strings.Repeat("z", 1048576)
	for _, s := range []string{"100000|" + all + "|0||", "100000|" + all + "|1|z|0||", "fffff|" + all[1:] + "|1|z|0||", "fffff|" + all[1:] + "|2|", "fffff|" + all[1:] + "|1|", "100001|" + all + "z|0||", "100001|", "100001;\x00|", "80000000|", "FFFFFFFF|", "00100000|"} {
		unchunkAsTold(t, string(wire(s)))
	}
}

func TestManySmallChunks(t *testing.T) { // P14.2, P14.3: a body of the greatest length, byte by byte
	body := bytes.Repeat([]byte("0\r\n\x00"), 1<<18)
	for _, size := range []int{1, 2, 3, 7} {
		b, e := web.Chunked(body, size)
		if got, n, f := web.Unchunk(b); e != api.OK || f != api.OK || n != len(b) || !bytes.Equal(got, body) {
			t.Errorf("in chunks of %d: %d, %d, %d bytes", size, int(e), int(f), n)
		}
		b = append(b[:len(b)-5], "1\r\nx\r\n0\r\n\r\n"...)
		if _, n, f := web.Unchunk(b); n != 0 || f != api.ErrLong {
			t.Errorf("in chunks of %d, and one byte more: %d, %d", size, n, int(f))
		}
	}
}

// trueChunked: P14.3.
func trueChunked(body string, size int) string {
	s := ""
	for body != "" {
		n := min(size, len(body))
		s += strconv.FormatInt(int64(n), 16) + "\r\n" + body[:n] + "\r\n"
		body = body[n:]
	}
	return s + "0\r\n\r\n"
}

func TestChunked(t *testing.T) { // P14.3
	for length := range 70 {
		body := strings.Repeat("\r\n0;a", length)[:length]
		for size := 1; size < 80; size++ {
			want := trueChunked(body, size)
			b, e := web.Chunked([]byte(body), size)
			if string(b) != want || e != api.OK {
				t.Fatalf("Chunked(%q, %d) = %q, %d, want %q", body, size, b, int(e), want)
			}
			if got, n, e := web.Unchunk(append(b, "tail"...)); string(got) != body || n != len(want) || e != api.OK {
				t.Errorf("Unchunk of Chunked(%q, %d): %q, %d, %d", body, size, got, n, int(e))
			}
		}
	}
}

func TestChunkedBounds(t *testing.T) { // P14.3
	most := strings.Repeat("x", 1048576)
	for _, size := range []int{65535, 65536} {
		for _, body := range []string{most, most[1:], most[:65536], most[:65537], most[:65535]} {
			if b, e := web.Chunked([]byte(body), size); string(b) != trueChunked(body, size) || e != api.OK {
				t.Errorf("Chunked of %d bytes by %d: %d bytes, %d", len(body), size, len(b), int(e))
			}
		}
	}
	for _, size := range []int{0, -1, 65537, 1 << 20, 1 << 40, -1 << 63, 1<<63 - 1} {
		for _, body := range []string{"", "a", most + "x"} { // ErrArg ahead of ErrLong
			if b, e := web.Chunked([]byte(body), size); len(b) != 0 || e != api.ErrArg {
				t.Errorf("Chunked of %d bytes by %d: %d bytes, %d", len(body), size, len(b), int(e))
			}
		}
	}
	for _, size := range []int{1, 65536} {
		if b, e := web.Chunked([]byte(most+"x"), size); len(b) != 0 || e != api.ErrLong {
			t.Errorf("Chunked of 1048577 bytes by %d: %d bytes, %d", size, len(b), int(e))
		}
	}
}
