package world_test

import (
	"fmt"
	"math/rand"
	"strings"
	"testing"

	"ledger/api"
	"ledger/world"
)

func TestLinesThatTellNothing(t *testing.T) { // P20.1, P20.3
	for _, line := range []string{"", " ", "    ", "#", "##", "  # head a", "#head", "# \xff\x00\t\r\"", "#\"", " #a b"} {
		isLine(t, line, api.OK)
		if story, _ := world.New().Do(line); story != "" {
			t.Errorf("%q tells %q", line, story)
		}
	}
	if tidy, e := world.Tidy("\n # a\n\n  head a\n#b"); tidy != "head a\n" || e != api.OK {
		t.Errorf("Tidy = %q, %d", tidy, int(e))
	}
}

func TestWords(t *testing.T) { // P20.1: bare and quoted ones
	for _, c := range []struct {
		line string
		e    api.Errno
		tidy string
	}{
		{"ask a b", api.OK, "ask a b\n"},
		{"  ask   a   b  ", api.OK, "ask a b\n"},
		{`ask a "b"`, api.OK, "ask a b\n"},
		{`ask a ""`, api.OK, `ask a ""` + "\n"},
		{`ask a " "`, api.OK, `ask a " "` + "\n"},
		{`ask a "  b  c "   `, api.OK, `ask a "  b  c "` + "\n"},
		{`ask a "\x5c"`, api.OK, `ask a \` + "\n"},
		{`ask a \`, api.OK, `ask a \` + "\n"},
		{`ask a \x41`, api.OK, `ask a \x41` + "\n"},
		{`ask a "\x22"`, api.OK, `ask a "\x22"` + "\n"},
		{`ask a "\x7f\x00\xff\x0a"`, api.OK, `ask a "\x7f\x00\xff\x0a"` + "\n"},
		{"ask a #", api.OK, "ask a #\n"},
		{`ask a "#"`, api.OK, "ask a #\n"},
		{"ask a !~", api.OK, "ask a !~\n"},
		{`ask a "\x41"`, api.ErrScript, ""},
		{`ask a "\xFF"`, api.ErrScript, ""},
		{`ask a "\n"`, api.ErrScript, ""},
		{`ask a "b`, api.ErrScript, ""},
		{`ask a "`, api.ErrScript, ""},
		{`ask a b"`, api.ErrScript, ""},
		{`ask a b"c"`, api.ErrScript, ""},
		{`ask a "b"c`, api.ErrScript, ""},
		{`ask a "b""c"`, api.ErrScript, ""},
		{`ask a "b"#`, api.ErrScript, ""},
		{"ask a \"\t\"", api.ErrScript, ""},
		{"ask a \"\xff\"", api.ErrScript, ""},
		{"ask a \t", api.ErrScript, ""},
		{"ask\ta b", api.ErrScript, ""},
		{"\task a b", api.ErrScript, ""},
		{"ask a b\r", api.ErrScript, ""},
		{"ask a \x7f", api.ErrScript, ""},
		{"ask a \x1f", api.ErrScript, ""},
		{"ask a \xc3\xa9", api.ErrScript, ""},
		{"ask a b # c", api.ErrScript, ""},
		{"ask a", api.ErrScript, ""},
		{"ask a b c", api.ErrScript, ""},
		{"ask", api.ErrScript, ""},
		{`"ask" a b`, api.ErrScript, ""},
		{`ask "a" b`, api.ErrScript, ""},
		{`"# a"`, api.ErrScript, ""},
		{"Ask a b", api.ErrScript, ""},
		{"asks a b", api.ErrScript, ""},
		{"as a b", api.ErrScript, ""},
		{"nobody a", api.ErrScript, ""},
		{"fork a", api.ErrScript, ""},
	} {
		isLine(t, c.line, c.e)
		if tidy, e := world.Tidy(c.line); tidy != c.tidy || e != c.e {
			t.Errorf("Tidy(%q) = %q, %d; want %q, %d", c.line, tidy, int(e), c.tidy, int(c.e))
		}
	}
}

func TestEveryByteOfAWord(t *testing.T) { // P20.1
	for c := range 256 {
		b := string([]byte{byte(c)})
		for _, form := range []string{"ask a %s", "ask a x%sy", `ask a "%s"`, `ask a "x%sy"`, `ask a "\x%s0"`, "he%sad a", "head a%s", "head %s", "latest a %s", "latest a 1%s", "latest a 1 %s", "latest a 1 %s1", "latest a 1 1*%s", "fail a 1 io%s", "%shead a"} {
			line := fmt.Sprintf(form, b)
			hasForm(t, line)
			if c != '\n' {
				continue
			}
			if story, e := world.New().Do(line); story != "" || e != api.ErrScript {
				t.Errorf("Do(%q) = %q, %d", line, story, int(e))
			}
		}
		hasForm(t, fmt.Sprintf(`ask a "\x%02x"`, c))
		hasForm(t, fmt.Sprintf(`ask a "\x%02X"`, c))
	}
}

func TestALinesEndWithinALine(t *testing.T) { // P20.3: ErrScript ahead of all else, but ErrLong
	for _, line := range []string{"head a\n", "\nhead a", "# a\nhead a", "#\n", "\n", " \n", "latest a 9\n", `ask a "` + "\n" + `"`, "head a\nhead a", "#" + strings.Repeat(" ", 65534) + "\n"} {
		w := world.New()
		if story, e := w.Do(line); story != "" || e != api.ErrScript {
			t.Errorf("Do(%s) = %q, %d", short(line), story, int(e))
		}
	}
	if story, e := world.New().Do(strings.Repeat("\n", 65537)); story != "" || e != api.ErrLong {
		t.Errorf("Do of lines' ends that are too many = %q, %d", story, int(e))
	}
}

func TestNames(t *testing.T) { // P20.1
	long := strings.Repeat("a", 30)
	for _, c := range []struct {
		name string
		e    api.Errno
	}{
		{"a", api.OK}, {"z", api.OK}, {"a0", api.OK}, {"a9z", api.OK}, {long, api.OK}, {long[1:] + "9", api.OK}, {"log", api.OK}, {"head", api.OK},
		{long + "a", api.ErrScript}, {"0", api.ErrScript}, {"9a", api.ErrScript}, {"A", api.ErrScript}, {"aB", api.ErrScript}, {"a-b", api.ErrScript}, {"a.b", api.ErrScript}, {"a/", api.ErrScript}, {"a:", api.ErrScript}, {"a`", api.ErrScript}, {"a{", api.ErrScript}, {"`", api.ErrScript}, {"{", api.ErrScript}, {`"a"`, api.ErrScript}, {`""`, api.ErrScript},
	} {
		for _, form := range []string{"head %s", "open %s", "client %s a 1 1", "client a %s 1 1", "turn %s a", "turn a %s", "merge a %s 1", "judge a %s p v", "log %s o 1 1 1 1 1", "add %s p v 1", "put %s t", "ask %s t", "fail %s 1 io", "crash %s", "answer %s t", "spoil %s 1 1", "look %s p v 1", "latest %s 1"} {
			isLine(t, fmt.Sprintf(form, c.name), c.e)
		}
	}
}

func TestNumbers(t *testing.T) { // P20.1: each number of each line at its bounds
	for _, c := range []struct {
		form        string
		least, most int64
	}{
		{"log a o %s 1 1 1 1", 0, 99}, {"log a o 1 %s 1 1 1", 0, 99}, {"log a o 1 1 %s 1 1", 0, 99}, {"log a o 1 1 1 %s 1", 0, 1 << 31}, {"log a o 1 1 1 1 %s", 0, 1 << 40},
		{"client a b %s 1", 0, 1 << 31}, {"client a b 1 %s", 0, 9999},
		{"add a p v %s", 0, 1 << 31}, {"add a p v 1 p v %s", 0, 1 << 31}, {"add a p v %s p v 1", 0, 1 << 31},
		{"fail a %s io", 0, 9999}, {"crash a %s", 0, 1 << 31}, {"crash a 1 2 %s", 0, 1 << 31},
		{"spoil a %s 1", 0, 9999}, {"spoil a 1 %s", 0, 1 << 31},
		{"look a p v %s", 1, 8}, {"latest a %s", 1, 8}, {"merge a b %s d", 1, 8},
		{"latest a 1 %s*d", 1, 100}, {"latest a 1 %s*b1", 1, 100}, {"look a p v 1 x %s*x", 1, 100},
		{"latest a 1 b%s", 0, 1000}, {"latest a 1 l%s", 0, 1000}, {"latest a 1 c%s", 0, 1048576}, {"merge a b 1 d s%s", 0, 1048576}, {"latest a 1 5*c%s", 0, 1048576},
	} {
		for _, n := range []int64{0, 1, 2, 8, 9, 99, 100, 101, 1000, 1001, 9999, 10000, 1048576, 1048577, 1 << 31, 1<<31 + 1, 1 << 40, 1<<40 + 1, 1<<63 - 1} {
			e := api.OK
			if n < c.least || n > c.most {
				e = api.ErrRange
			}
			isLine(t, fmt.Sprintf(c.form, fmt.Sprint(n)), e)
		}
		for _, s := range []string{"01", "00", "-1", "+1", "1x", "x1", "0x1", "1.0", "9223372036854775808", "99999999999999999999999", `"1"`, `"`} {
			isLine(t, fmt.Sprintf(c.form, s), api.ErrScript)
		}
	}
}

func TestFatesAndKinds(t *testing.T) { // P20.1
	for _, c := range []struct {
		word string
		e    api.Errno
	}{
		{"d", api.OK}, {"x", api.OK}, {"b0", api.OK}, {"l1000", api.OK}, {"c0", api.OK}, {"s7", api.OK}, {"1*d", api.OK}, {"100*x", api.OK}, {"3*s1048576", api.OK},
		{"b", api.ErrScript}, {"l", api.ErrScript}, {"c", api.ErrScript}, {"s", api.ErrScript}, {"d0", api.ErrScript}, {"x1", api.ErrScript}, {"dd", api.ErrScript}, {"dx", api.ErrScript}, {"D", api.ErrScript}, {"B1", api.ErrScript}, {"q", api.ErrScript}, {"1", api.ErrScript}, {"*", api.ErrScript}, {"*d", api.ErrScript}, {"2*", api.ErrScript}, {"2d", api.ErrScript}, {"d*2", api.ErrScript}, {"2**d", api.ErrScript}, {"2*3*d", api.ErrScript}, {"02*d", api.ErrScript}, {"2*d1", api.ErrScript}, {"b1*2", api.ErrScript}, {"b01", api.ErrScript}, {"b-1", api.ErrScript}, {`"d"`, api.ErrScript}, {`2*"d"`, api.ErrScript},
		{"0*d", api.ErrRange}, {"101*x", api.ErrRange}, {"0*b1001", api.ErrRange}, {"2*l1001", api.ErrRange}, {"101*c1048577", api.ErrRange},
		{"0*q", api.ErrScript}, {"101*d1", api.ErrScript}, {"0*b99999999999999999999", api.ErrScript}, {"99999999999999999999*b1001", api.ErrScript},
	} {
		isLine(t, "latest a 1 "+c.word, c.e)
		isLine(t, "look a p v 1 d "+c.word+" d", c.e)
		isLine(t, "merge a b 1 "+c.word, c.e)
	}
	for _, w := range []string{"io", "full", "dead"} {
		isLine(t, "fail a 1 "+w, api.OK)
		isLine(t, "fail a 1 "+strings.ToUpper(w), api.ErrScript)
		isLine(t, "fail a 1 "+w+w, api.ErrScript)
		isLine(t, `fail a 1 "`+w+`"`, api.ErrScript)
	}
}

func TestHowManyWords(t *testing.T) { // P20.1
	repeat := func(begin, again string, times int, e api.Errno) {
		t.Helper()
		isLine(t, begin+strings.Repeat(again, times), e)
	}
	for _, c := range []struct {
		begin, again string
		least, most  int
	}{
		{"add a", " p v 1", 1, 64}, {"put a", " t", 1, 64}, {"crash a", " 1", 0, 256}, {"look a p v 1", " d", 0, 256}, {"latest a 1", " 100*d", 0, 256}, {"merge a b 1", " 100*x", 0, 256},
		{"log a o 1 1 1 1 1", " 1", 0, 0}, {"client a b 1 1", " 1", 0, 0}, {"ask a t", " t", 0, 0}, {"head a", " a", 0, 0}, {"fail a 1 io", " io", 0, 0}, {"open a", " a", 0, 0}, {"turn a b", " b", 0, 0}, {"answer a t", " t", 0, 0}, {"spoil a 1 1", " 1", 0, 0}, {"judge a b p v", " v", 0, 0},
	} {
		for _, n := range []int{0, 1, 2, 3, 63, 64, 65, 255, 256, 257} {
			e := api.OK
			if n < c.least || n > c.most {
				e = api.ErrScript
			}
			repeat(c.begin, c.again, n, e)
		}
		words := strings.Fields(c.begin + c.again)
		for n := range len(strings.Fields(c.begin)) {
			isLine(t, strings.Join(words[:n], " "), map[bool]api.Errno{true: api.OK, false: api.ErrScript}[n == 0])
		}
	}
	for _, rest := range []string{" p", " p v", " p v 1 p", " p v 1 p v"} {
		isLine(t, "add a"+rest, api.ErrScript)
	}
}

func TestFormAheadOfRange(t *testing.T) { // P20.1, P0.1: wherever in the line it stands
	for line, e := range map[string]api.Errno{
		"latest a 9 q": api.ErrScript, "latest A 9": api.ErrScript, "latest a 9 d d d0": api.ErrScript, "latest a 9 d": api.ErrRange, "latest a 1 b1001 q": api.ErrScript, "latest a 9 b1001": api.ErrRange,
		"log a o 100 1 1 1 x": api.ErrScript, "log a o 100 1 1 1 1 1": api.ErrScript, "log a o 100 1 1 1": api.ErrScript, "log a o 100 1 1 1 1": api.ErrRange, `log a "o 100 1 1 1 1`: api.ErrScript,
		"add a p v 2147483649 p v": api.ErrScript, "add a p v 2147483649 p v x": api.ErrScript, "fail a 10000 no": api.ErrScript, "fail a 10000 io": api.ErrRange,
		"look a p v 0" + strings.Repeat(" d", 257): api.ErrScript, "look a p v 0" + strings.Repeat(" d", 256): api.ErrRange,
	} {
		isLine(t, line, e)
	}
	hasForm(t, "latest a 9\nhead A") // but the first line that has an error is told, whichever it is
	if n, e := world.Check("head a\nlatest a 9\nhead A"); n != 1 || e != api.ErrRange {
		t.Errorf("Check = %d, %d", n, int(e))
	}
}

func TestTheFirstLineThatIsNone(t *testing.T) { // P20.1: all lines are counted
	for _, c := range []struct {
		script string
		n      int
		e      api.Errno
	}{
		{"", 0, api.OK}, {"head a", 0, api.OK}, {"x", 0, api.ErrScript}, {"\nx", 1, api.ErrScript}, {"\n\n# c\nhead a\n\nlatest a 0\nx\n", 5, api.ErrRange}, {"head a\r\n", 0, api.ErrScript}, {"head a\n\n\n", 0, api.OK}, {"head a\n \n\t", 2, api.ErrScript},
		{strings.Repeat("\n", 1023) + "x", 1023, api.ErrScript},
	} {
		hasForm(t, c.script)
		if n, e := world.Check(c.script); n != c.n || e != c.e {
			t.Errorf("Check(%s) = %d, %d; want %d, %d", short(c.script), n, int(e), c.n, int(c.e))
		}
	}
}

func TestScriptsThatAreTooLong(t *testing.T) { // P20.1, P20.2: by the bytes and by the lines, ahead of all else
	for _, c := range []struct {
		script string
		e      api.Errno
	}{
		{strings.Repeat("\n", 1024), api.OK}, {strings.Repeat("\n", 1025), api.ErrLong}, {strings.Repeat("\n", 1024) + " ", api.ErrLong}, {strings.Repeat("#\n", 1023) + "#", api.OK},
		{strings.Repeat("head a\n", 1024), api.OK}, {strings.Repeat("head a\n", 1024) + "x", api.ErrLong}, {"x\n" + strings.Repeat("\n", 1024), api.ErrLong}, {"latest a 9\n" + strings.Repeat("\n", 1024), api.ErrLong},
		{strings.Repeat(" ", 65536), api.OK}, {strings.Repeat(" ", 65537), api.ErrLong}, {strings.Repeat("x", 65537), api.ErrLong}, {strings.Repeat("x", 65536), api.ErrScript},
		{strings.Repeat("\n", 65537), api.ErrLong}, {strings.Repeat("x\n", 600000), api.ErrLong}, {"head a" + strings.Repeat(" ", 65530), api.OK},
	} {
		if e := hasForm(t, c.script); e != c.e {
			t.Errorf("%s of %d bytes: %d; want %d", short(c.script), len(c.script), int(e), int(c.e))
		}
	}
}

func TestTidyThatIsTooLong(t *testing.T) { // P20.1: the tidy form has a line's end more than the script
	for spare, e := range map[int]api.Errno{0: api.ErrLong, 1: api.OK, 2: api.OK} {
		line := "ask a " + strings.Repeat("x", 65530-spare)
		hasForm(t, line)
		if _, f := world.Tidy(line); f != e {
			t.Errorf("Tidy of %d bytes without an end: %d; want %d", len(line), int(f), int(e))
		}
		runs(t, line, "ask a nobody\n")
	}
	line := "ask a " + quoted(strings.Repeat("x", 65528)) // the quotes go, so there is room for the end
	if tidy, e := world.Tidy(line); len(line) != 65536 || len(tidy) != 65535 || e != api.OK {
		t.Errorf("Tidy of %d bytes: %d, %d", len(line), len(tidy), int(e))
	}
	hasForm(t, line)
}

// loose: a line of some shape, its words well-formed or a bit amiss.
func loose(r *rand.Rand) string {
	all := shapes()
	s := all[r.Intn(len(all))]
	places := s.first
	for range s.least + r.Intn(3) {
		if s.most > 0 {
			places = append(places[:len(places):len(places)], s.again...)
		}
	}
	words := []string{s.word}
	for _, p := range places {
		words = append(words, sample(r, p))
	}
	line := strings.Repeat(" ", r.Intn(2))
	for _, w := range words {
		line += w + strings.Repeat(" ", 1+r.Intn(2))
	}
	if r.Intn(3) > 0 {
		return line
	}
	odd := []string{"", " ", "\"", "#", "*", "0", "1", "d", "\\x41", "\t", "\xff", "a"}
	at := r.Intn(len(line) + 1)
	return line[:at] + odd[r.Intn(len(odd))] + line[min(len(line), at+r.Intn(2)):]
}

// sample: a word for a place.
func sample(r *rand.Rand, p place) string {
	pick := func(words ...string) string { return words[r.Intn(len(words))] }
	switch p.form {
	case nameForm:
		return pick("a", "b", "c0", "abcdefghij", "zz9")
	case textForm:
		return pick("t", "a.example/m", `""`, `"a b"`, `"ab"`, `"\x0a"`, `"#"`, `\`, "v1.0.0")
	case kindForm:
		return pick("io", "full", "dead")
	case fateForm:
		return pick("", "3*", "100*", "101*") + pick("d", "x", "b3", "l1000", "c7", "s0", "b1001")
	}
	return pick(fmt.Sprint(p.least), fmt.Sprint(p.most), "5", "7", fmt.Sprint(p.most+1))
}

func TestRandomScripts(t *testing.T) { // P20.1
	r := rand.New(rand.NewSource(20))
	count := map[api.Errno]int{}
	for range 6000 {
		script := ""
		for range 1 + r.Intn(3) {
			script += loose(r) + "\n"
			if r.Intn(6) == 0 {
				script += []string{"\n", "# x\n", "  \n"}[r.Intn(3)]
			}
		}
		count[hasForm(t, script[:len(script)-r.Intn(2)])]++
	}
	for _, e := range []api.Errno{api.OK, api.ErrScript, api.ErrRange} {
		if count[e] < 100 {
			t.Errorf("just %d scripts of 6000 answer %d", count[e], int(e))
		}
	}
}
