package note_test

import (
	"bytes"
	"encoding/base64"
	"encoding/binary"
	"regexp"
	"slices"
	"strings"
	"testing"
	"unicode/utf8"

	"ledger/api"
	"ledger/note"
)

const (
	line1 = "\u2014 log.example slLQz7CB8qZ4IxEGL9BaMuh6upuVa6ngpVI4rJA32UgutelhwQq7kVTch1z0fFcvy569zJn9RWfo5C2apY591ftvWQY=\n"
	line3 = "\u2014 witness YYAKx0jfwXN/A7hgZk6L5xziAOo4MGg1GM5b6KxWCfPNGk/q\n" // both of hello and a line's end
	other = "\u2014 a AAAAB3g=\n"                                               // the hash 7, the byte x
	note1 = "hello\n\n" + line1
	note2 = "a\n\nb\n\n\u2014 log.example 0INSRtKy/p5e/E/NnKSsH3NhBjIzYrniDP8U+9a2EjafRxfw\n"
)

// lineOf: the line of a signature, by the library.
func lineOf(s note.Signature) string {
	return "\u2014 " + s.Name + " " + encode(append(binary.BigEndian.AppendUint32(nil, s.Hash), s.Bytes...)) + "\n"
}

// noteOf: a note, by the words of the document.
func noteOf(body string, sigs ...note.Signature) string {
	message := body + "\n"
	for _, s := range sigs {
		message += lineOf(s)
	}
	return message
}

func sameSignatures(a, b []note.Signature) bool {
	return slices.EqualFunc(a, b, func(x, y note.Signature) bool {
		return x.Name == y.Name && x.Hash == y.Hash && bytes.Equal(x.Bytes, y.Bytes)
	})
}

func someTexts() []string {
	return []string{"hello\n", "\n", "\n\n", "\n\n\n", "a\n\nb\n", "a\n\n", "\na\n", "é\u0085\u2028\n", "- a AAAAB3g=\n", other, "a\n\n" + other, strings.Repeat("x", 3000) + "\n"}
}

func wrongTexts() []string {
	return []string{"", "a", "hello", "a\nb", "\nb", "a\t\n", "a\r\n", "\x00\n", "\x7f\n", "\xff\n", "\xc3\n", "a\n\xed\xa0\x80\n", "a\n\x1f"}
}

func someSignatures() []note.Signature {
	return []note.Signature{
		{Name: "a", Hash: 7, Bytes: []byte("x")},
		{Name: "log.example", Hash: 0xffffffff, Bytes: []byte{0}},
		{Name: "é", Hash: 0, Bytes: up16()},
		{Name: strings.Repeat("n", 100), Hash: 0x80000001, Bytes: bytes.Repeat([]byte{0xfb}, 65)},
		{Name: "\u2014", Hash: 0x01020304, Bytes: []byte("yz")},
		{Name: "a", Hash: 7, Bytes: []byte("x")}, // a line may stand twice
	}
}

func up16() []byte { b := up(); return b[:16] }

func formats(t *testing.T, body string, sigs []note.Signature, want string, e api.Errno) {
	t.Helper()
	if m, f := note.Format(body, sigs); string(m) != want || f != e {
		t.Errorf("Format(%.40q, %d signatures): %.80q, %d, want %.80q, %d", body, len(sigs), m, f, want, e)
	}
}

func splits(t *testing.T, message, body string, sigs []note.Signature, e api.Errno) {
	t.Helper()
	if b, l, f := note.Split([]byte(message)); b != body || !sameSignatures(l, sigs) || f != e {
		t.Errorf("Split(%.80q): %.40q, %v, %d, want %.40q, %d signatures, %d", message, b, l, f, body, len(sigs), e)
	}
}

func TestFormatAndSplit(t *testing.T) { // P7.7, P7.8
	for _, body := range someTexts() {
		for from := range someSignatures() {
			for to := from + 1; to <= len(someSignatures()); to++ {
				sigs := someSignatures()[from:to]
				message := noteOf(body, sigs...)
				formats(t, body, sigs, message, api.OK)
				splits(t, message, body, sigs, api.OK)
			}
		}
	}
}

func TestSplitExamples(t *testing.T) { // P7.8
	x := note.Signature{Name: "a", Hash: 7, Bytes: []byte("x")}
	splits(t, "\n\n"+other, "\n", []note.Signature{x}, api.OK)
	splits(t, "a\n\n"+strings.Repeat(other, 16), "a\n", slices.Repeat([]note.Signature{x}, 16), api.OK)
	splits(t, "a\n\n"+strings.Repeat(other, 17), "", nil, api.ErrNote)
	body, sigs, e := note.Split([]byte(note2))
	if body != "a\n\nb\n" || len(sigs) != 1 || sigs[0].Name != "log.example" || sigs[0].Hash != 0xd0835246 || len(sigs[0].Bytes) != 32 || e != api.OK {
		t.Errorf("Split of the fifth example: %q, %v, %d", body, sigs, e)
	}
}

func TestSplitRefuses(t *testing.T) { // P7.8, P0.1
	for _, message := range []string{
		"", "\n", "\n\n", "hello", "hello\n", "hello\n\n", "hello\n\n\n", other, "\n" + other, "hello\n" + other,
		"hello\n\n- a AAAAB3g=\n", "hello\n\n\u2013 a AAAAB3g=\n", "hello\n\n\u2014a AAAAB3g=\n", "hello\n\n\u2014  a AAAAB3g=\n", "hello\n\n \u2014 a AAAAB3g=\n", "hello\n\na AAAAB3g=\n", "hello\n\n\xe2\x80 a AAAAB3g=\n",
		"hello\n\n\u2014 a AAAAB3g=", "hello\n\n\u2014 a AAAAB3g=\r\n", "hello\n\n\u2014 a AAAAB3g= \n", "hello\n\n\u2014 a  AAAAB3g=\n", "hello\n\n\u2014 a AAAAB3g= x\n", "hello\n\n\u2014 a\tAAAAB3g=\n",
		"hello\n\n\u2014 a AAAAB3h=\n", "hello\n\n\u2014 a AAAAB3g\n", "hello\n\n\u2014 a AAAAAA==\n", "hello\n\n\u2014 a AAAA\n", "hello\n\n\u2014 a \n", "hello\n\n\u2014 a\n", "hello\n\n\u2014 \n", "hello\n\n\u2014\n", "hello\n\n\u2014  AAAAB3g=\n",
		"hello\n\n\u2014 a+b AAAAB3g=\n", "hello\n\n\u2014 a\u00a0b AAAAB3g=\n", "hello\n\n\u2014 \xff AAAAB3g=\n", "hello\n\n\u2014 " + strings.Repeat("n", 101) + " AAAAB3g=\n",
		note1 + "x\n", note1 + "x", note1 + "\n", note1 + "\n" + line1 + "\n", other + "\n", "hello\n\n" + other + "x\n" + other,
		"a\t\n\n" + other, "\x00\n\n" + other, "a\r\n\n" + other, "\xff\n\n" + other, "\x7f\n\n" + other,
	} {
		splits(t, message, "", nil, api.ErrNote)
	}
	if _, _, e := note.Split(nil); e != api.ErrNote {
		t.Errorf("Split(nil): %d", e)
	}
}

var (
	noteForm = regexp.MustCompile(`^(?s)(.*\n)\n((?:\x{2014} [^ \n]+ [A-Za-z0-9+/]+={0,2}\n){1,16})$`)
	lineForm = regexp.MustCompile(`\x{2014} ([^ \n]+) ([A-Za-z0-9+/]+={0,2})\n`)
)

// readsNote: the text and signatures of a note, by the words of the document; false, if it is none.
func readsNote(message string) (string, []note.Signature, bool) {
	m := noteForm.FindStringSubmatch(message)
	if m == nil || !utf8.ValidString(m[1]) || strings.ContainsFunc(m[1], func(r rune) bool { return r < 0x20 && r != '\n' || r == 0x7f }) {
		return "", nil, false
	}
	var sigs []note.Signature
	for _, l := range lineForm.FindAllStringSubmatch(m[2], -1) {
		b, err := base64.StdEncoding.Strict().DecodeString(l[2])
		if err != nil || len(b) < 5 || nameError(l[1]) != api.OK {
			return "", nil, false
		}
		sigs = append(sigs, note.Signature{Name: l[1], Hash: binary.BigEndian.Uint32(b), Bytes: b[4:]})
	}
	return m[1], sigs, true
}

func TestSplitEditedNotes(t *testing.T) { // P7.7, P7.8
	taken := 0
	for _, message := range []string{"hello\n\n" + other + line3, note2, "\n\n" + other, "a\n\n" + other + "\n" + other} {
		eachEdit(message, "+ \n=aAg/\x00\xff\xe2", func(message string) {
			body, sigs, ok := readsNote(message)
			if !ok {
				splits(t, message, "", nil, api.ErrNote)
				return
			}
			taken++
			splits(t, message, body, sigs, api.OK)
			formats(t, body, sigs, message, api.OK)
		})
	}
	if taken < 100 {
		t.Errorf("only %d of the edited notes are notes", taken)
	}
}

func TestSplitLengths(t *testing.T) { // P7.8
	fill := 65536 - len("\n\n"+other)
	long := strings.Repeat("x", fill) + "\n\n" + other
	splits(t, long, strings.Repeat("x", fill)+"\n", []note.Signature{{Name: "a", Hash: 7, Bytes: []byte("x")}}, api.OK)
	splits(t, "x"+long, "", nil, api.ErrLong)
	splits(t, strings.Repeat("\n", 65536), "", nil, api.ErrNote)
	splits(t, strings.Repeat("\n", 65537), "", nil, api.ErrLong)
	splits(t, strings.Repeat("\x00", 1<<21), "", nil, api.ErrLong)
}

func TestFormatRefuses(t *testing.T) { // P7.7, P0.1
	good := someSignatures()
	for _, body := range wrongTexts() {
		formats(t, body, good, "", api.ErrNote)
	}
	formats(t, "a\n", nil, "", api.ErrNote)
	formats(t, "a\n", []note.Signature{}, "", api.ErrNote)
	for _, name := range []string{"", "a b", "a\n", "a+b", "\xff", "\u00a0", strings.Repeat("n", 101)} {
		formats(t, "a\n", []note.Signature{{Name: name, Bytes: []byte("x")}}, "", api.ErrNote)
		formats(t, "a\n", append(someSignatures(), note.Signature{Name: name, Bytes: []byte("x")}), "", api.ErrNote)
	}
	formats(t, "a\n", []note.Signature{{Name: "a", Hash: 7}}, "", api.ErrNote)
	formats(t, "a\n", []note.Signature{good[0], {Name: "a", Hash: 7, Bytes: []byte{}}, good[1]}, "", api.ErrNote)
}

// filled: a text of so many bytes.
func filled(n int) string { return strings.Repeat("x", n-1) + "\n" }

func TestFormatLengths(t *testing.T) { // P7.7
	x := note.Signature{Name: "a", Hash: 7, Bytes: []byte("x")}
	for _, sigs := range [][]note.Signature{{x}, {x, x}, someSignatures(), slices.Repeat([]note.Signature{x}, 16), {{Name: "b", Bytes: make([]byte, 3000)}}} {
		room := 65536 - len(noteOf("", sigs...))
		formats(t, filled(room), sigs, noteOf(filled(room), sigs...), api.OK)
		formats(t, filled(room+1), sigs, "", api.ErrLong)
		formats(t, strings.Repeat("\x00", room), sigs, "", api.ErrNote)
		formats(t, strings.Repeat("\x00", room+1), sigs, "", api.ErrLong) // the length is looked at first
	}
	formats(t, filled(65535), nil, "", api.ErrNote)
	formats(t, filled(65536), nil, "", api.ErrLong) // with the one byte more that it would have
	formats(t, filled(65537), nil, "", api.ErrLong)
	formats(t, "", slices.Repeat([]note.Signature{{}}, 16), "", api.ErrNote)
	formats(t, "", slices.Repeat([]note.Signature{{}}, 17), "", api.ErrLong)
	formats(t, "a\n", slices.Repeat([]note.Signature{x}, 17), "", api.ErrLong)
}

func TestFormatCountsWhatIsWrong(t *testing.T) { // P7.7
	for n := range 7 {
		for _, name := range []string{"", "a b", strings.Repeat("n", 200)} {
			s := note.Signature{Name: name, Bytes: make([]byte, n)}
			room := 65536 - len(noteOf("", s))
			formats(t, filled(room), []note.Signature{s}, "", api.ErrNote)
			formats(t, filled(room+1), []note.Signature{s}, "", api.ErrLong)
		}
	}
	formats(t, "a\n", []note.Signature{{Name: strings.Repeat("n", 65536), Bytes: []byte("x")}}, "", api.ErrLong)
	formats(t, "a\n", []note.Signature{{Name: strings.Repeat("n", 65000), Bytes: []byte("x")}}, "", api.ErrNote)
	formats(t, "a\n", []note.Signature{{Name: "a", Bytes: make([]byte, 1<<22)}}, "", api.ErrLong)
}
