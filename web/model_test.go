package web_test

import (
	"math/big"
	"regexp"
	"strconv"
	"strings"

	"ledger/api"
	"ledger/web"
)

// What follows says the chapter's words again, in patterns over texts in which each byte is a letter of its own: what the program answers is held against it.

// wide: each byte as the letter of that number, so that a pattern sees bytes and not UTF-8.
func wide[T []byte | string](b T) string {
	letters := make([]rune, len(b))
	for i := range len(b) {
		letters[i] = rune(b[i])
	}
	return string(letters)
}

// narrow: turns wide round.
func narrow(s string) string {
	b := make([]byte, 0, len(s))
	for _, letter := range s {
		b = append(b, byte(letter))
	}
	return string(b)
}

const (
	tokenPattern = "[!#$%&'*+\\-.^_`|~0-9A-Za-z]+"
	valuePattern = `[\t\x20-\x7e\x{80}-\x{ff}]*`
	plainPattern = `A-Za-z0-9\-._~!$&'()*+,;=:@/`
)

var (
	requestForm = regexp.MustCompile(`^(` + tokenPattern + `) ([\x21-\x7e]+) HTTP/([0-9]\.[0-9])$`)
	statusForm  = regexp.MustCompile(`^HTTP/([0-9]\.[0-9]) ([0-9]{3})( ` + valuePattern + `)?$`)
	fieldForm   = regexp.MustCompile(`^(` + tokenPattern + `):(` + valuePattern + `)$`)
	chunkForm   = regexp.MustCompile(`^([0-9A-Fa-f]{1,8})(;` + valuePattern + `)?$`)
	methodForm  = regexp.MustCompile(`^(GET|HEAD|POST|PUT|DELETE|CONNECT|OPTIONS|TRACE|PATCH)$`)
	hostForm    = regexp.MustCompile(`^[\x21\x22\x24-\x2e\x30-\x3e\x41-\x5b\x5d-\x7e]*$`)
	numberForm  = regexp.MustCompile(`^(0|[1-9][0-9]*)$`)
	around      = regexp.MustCompile(`^[ \t]+|[ \t]+$`)
	bodiless    = regexp.MustCompile(`^(1[0-9][0-9]|204|304)$`)
	tokenForm   = regexp.MustCompile(`^` + tokenPattern + `$`)
	valueForm   = regexp.MustCompile(`^` + valuePattern + `$`)
	visibleForm = regexp.MustCompile(`^[\x21-\x7e]+$`)
	pathForm    = regexp.MustCompile(`^/([` + plainPattern + `]|%[2-7][0-9A-Fa-f]|%[89A-Fa-f][0-9A-Fa-f])*$`)
	pathTaboo   = regexp.MustCompile(`%(2[Ff]|7[Ff])`)
	queryForm   = regexp.MustCompile(`^[?%` + plainPattern + `]*$`)
	tripleForm  = regexp.MustCompile(`%[0-9A-Fa-f]{2}`)
	escapable   = regexp.MustCompile(`^/[^\x00-\x1f\x7f]*$`)
	notPlain    = regexp.MustCompile(`[^` + plainPattern + `]`)

	hostName       = regexp.MustCompile(`(?i)^host$`)
	connectionName = regexp.MustCompile(`(?i)^connection$`)
	codingName     = regexp.MustCompile(`(?i)^transfer-encoding$`)
	lengthName     = regexp.MustCompile(`(?i)^content-length$`)
	chunkedWord    = regexp.MustCompile(`(?i)^chunked$`)
	closeWord      = regexp.MustCompile(`(?i)^[ \t]*close[ \t]*$`)
	keepWord       = regexp.MustCompile(`(?i)^[ \t]*keep-alive[ \t]*$`)
)

// trueLines: every line of a text with its end; what stands behind the last end is none.
func trueLines(s string) []string {
	l := strings.SplitAfter(s, "\n")
	return l[:len(l)-1]
}

// bare: a line without its end.
func bare(line string) string {
	return strings.TrimSuffix(strings.TrimSuffix(line, "\n"), "\r")
}

// trueTrim: of both ends.
func trueTrim(s string) string { return around.ReplaceAllString(s, "") }

// trueHead: numbers 1 and 2: the first line, the field lines, and the bytes of all up to and with the empty line.
func trueHead(s string, long api.Errno) (start string, fields []string, size int, e api.Errno) {
	lines := trueLines(s)
	switch {
	case len(lines) == 0 && len(s) > 8001:
		return "", nil, 0, long
	case len(lines) == 0:
		return "", nil, 0, api.ErrShort
	case len(bare(lines[0])) > 8000:
		return "", nil, 0, long
	}
	taken := 0
	for _, line := range lines[1:] {
		taken += len(line)
		if bare(line) == "" {
			if taken > 16384 {
				return "", nil, 0, api.ErrLong
			}
			return bare(lines[0]), fields, len(lines[0]) + taken, api.OK
		}
		fields = append(fields, bare(line))
	}
	if len(s)-len(lines[0]) > 16384 {
		return "", nil, 0, api.ErrLong
	}
	return "", nil, 0, api.ErrShort
}

// trueFields: number 7.
func trueFields(lines []string) ([]web.Field, api.Errno) {
	if len(lines) > 64 {
		return nil, api.ErrLong
	}
	var fields []web.Field
	for _, line := range lines {
		m := fieldForm.FindStringSubmatch(wide(line))
		if m == nil {
			return nil, api.ErrField
		}
		fields = append(fields, web.Field{Name: narrow(m[1]), Value: narrow(trueTrim(m[2]))})
	}
	return fields, api.OK
}

// valuesOf: of all fields with that name.
func valuesOf(fields []web.Field, name *regexp.Regexp) []string {
	var values []string
	for _, field := range fields {
		if name.MatchString(wide(field.Name)) {
			values = append(values, wide(field.Value))
		}
	}
	return values
}

// trueHost: number 8.
func trueHost(fields []web.Field, minor int) bool {
	hosts := valuesOf(fields, hostName)
	if len(hosts) == 0 {
		return minor == 0
	}
	return len(hosts) == 1 && hostForm.MatchString(hosts[0])
}

// trueBody: numbers 9 and 10, for what stands behind the head. told: do the fields tell the length?
func trueBody(fields []web.Field, minor int, response bool, s string) (body string, size int, told bool, e api.Errno) {
	codings, lengths := valuesOf(fields, codingName), valuesOf(fields, lengthName)
	switch {
	case len(codings) > 0:
		if minor == 0 || len(codings) > 1 || !chunkedWord.MatchString(codings[0]) || len(lengths) > 0 {
			return "", 0, true, api.ErrField
		}
		body, size, e = trueUnchunk(s)
		if e == api.ErrLong {
			e = api.ErrLength
		}
		return body, size, true, e
	case len(lengths) > 0:
		if len(lengths) > 1 || !numberForm.MatchString(lengths[0]) {
			return "", 0, true, api.ErrField
		}
		n, _ := new(big.Int).SetString(lengths[0], 10)
		if n.Cmp(big.NewInt(1048576)) > 0 {
			return "", 0, true, api.ErrLength
		}
		if n.Cmp(big.NewInt(int64(len(s)))) > 0 {
			return "", 0, true, api.ErrShort
		}
		return s[:n.Int64()], int(n.Int64()), true, api.OK
	case !response:
		return "", 0, true, api.OK
	case len(s) > 1048576:
		return "", 0, false, api.ErrLength
	}
	return s, len(s), false, api.OK
}

// trueClose: by the Connection fields.
func trueClose(fields []web.Field, minor int) bool {
	closing, keeping := false, false
	for _, value := range valuesOf(fields, connectionName) {
		for _, word := range strings.Split(value, ",") {
			closing = closing || closeWord.MatchString(word)
			keeping = keeping || keepWord.MatchString(word)
		}
	}
	return closing || minor == 0 && !keeping
}

// trueMinor: number 5.
func trueMinor(version string) (int, api.Errno) {
	if version != "1.0" && version != "1.1" {
		return 0, api.ErrProtocol
	}
	return int(version[2] - '0'), api.OK
}

func trueRequest(b []byte) (web.Request, int, api.Errno) {
	s := string(b)
	start, lines, size, e := trueHead(s, api.ErrTarget)
	if e != api.OK {
		return web.Request{}, 0, e
	}
	m := requestForm.FindStringSubmatch(wide(start))
	if m == nil {
		return web.Request{}, 0, api.ErrStart
	}
	if !methodForm.MatchString(m[1]) {
		return web.Request{}, 0, api.ErrMethod
	}
	minor, e := trueMinor(m[3])
	if e != api.OK {
		return web.Request{}, 0, e
	}
	fields, e := trueFields(lines)
	if e != api.OK {
		return web.Request{}, 0, e
	}
	if !trueHost(fields, minor) {
		return web.Request{}, 0, api.ErrHost
	}
	body, n, _, e := trueBody(fields, minor, false, s[size:])
	if e != api.OK {
		return web.Request{}, 0, e
	}
	return web.Request{Method: m[1], Target: m[2], Minor: minor, Fields: fields, Body: []byte(body), Close: trueClose(fields, minor)}, size + n, api.OK
}

// trueResponse: told is false of a response whose body is all bytes.
func trueResponse(b []byte) (r web.Response, n int, told bool, e api.Errno) {
	s := string(b)
	start, lines, size, e := trueHead(s, api.ErrStart)
	if e != api.OK {
		return web.Response{}, 0, true, e
	}
	m := statusForm.FindStringSubmatch(wide(start))
	if m == nil {
		return web.Response{}, 0, true, api.ErrStart
	}
	minor, e := trueMinor(m[1])
	if e != api.OK {
		return web.Response{}, 0, true, e
	}
	status, _ := strconv.Atoi(m[2])
	if status < 100 || status > 599 {
		return web.Response{}, 0, true, api.ErrStatus
	}
	fields, e := trueFields(lines)
	if e != api.OK {
		return web.Response{}, 0, true, e
	}
	r = web.Response{Status: status, Minor: minor, Fields: fields, Close: trueClose(fields, minor)}
	if bodiless.MatchString(m[2]) {
		return r, size, true, api.OK
	}
	body, n, told, e := trueBody(fields, minor, true, s[size:])
	if e != api.OK {
		return web.Response{}, 0, told, e
	}
	r.Body, r.Close = []byte(body), r.Close || !told
	return r, size + n, told, api.OK
}

// trueUnchunk: P14.2, chunk by chunk.
func trueUnchunk(s string) (body string, size int, e api.Errno) {
	for at := 0; ; {
		left := s[at:]
		end := strings.Index(left, "\n")
		switch {
		case end < 0 && len(left) > 257:
			return "", 0, api.ErrChunk
		case end < 0:
			return "", 0, api.ErrShort
		}
		m := chunkForm.FindStringSubmatch(wide(bare(left[:end+1])))
		if len(bare(left[:end+1])) > 256 || m == nil {
			return "", 0, api.ErrChunk
		}
		n, _ := strconv.ParseInt(m[1], 16, 64)
		if int64(len(body))+n > 1048576 {
			return "", 0, api.ErrLong
		}
		left = left[end+1:]
		if int64(len(left)) < n {
			return "", 0, api.ErrShort
		}
		body += left[:n]
		left = left[n:]
		switch {
		case left == "" || left == "\r":
			return "", 0, api.ErrShort
		case strings.HasPrefix(left, "\n"):
			left = left[1:]
		case strings.HasPrefix(left, "\r\n"):
			left = left[2:]
		default:
			return "", 0, api.ErrChunk
		}
		at = len(s) - len(left)
		if n == 0 {
			return body, at, api.OK
		}
	}
}

// truePrinted: the fields that are printed, with the length of the body at their end, if it is told.
func truePrinted(fields []web.Field, body []byte, told bool) []web.Field {
	var printed []web.Field
	for _, field := range fields {
		if !lengthName.MatchString(wide(field.Name)) && !codingName.MatchString(wide(field.Name)) {
			printed = append(printed, web.Field{Name: field.Name, Value: narrow(trueTrim(wide(field.Value)))})
		}
	}
	if told {
		printed = append(printed, web.Field{Name: "Content-Length", Value: strconv.Itoa(len(body))})
	}
	return printed
}

// trueText: the field lines and the empty line.
func trueText(fields []web.Field) string {
	var s strings.Builder
	for _, field := range fields {
		s.WriteString(field.Name + ": " + field.Value + "\r\n")
	}
	return s.String() + "\r\n"
}

// trueForms: ErrLong, if there are more than 64; ErrField.
func trueForms(fields []web.Field) api.Errno {
	if len(fields) > 64 {
		return api.ErrLong
	}
	for _, field := range fields {
		if !tokenForm.MatchString(wide(field.Name)) || !valueForm.MatchString(wide(field.Value)) {
			return api.ErrField
		}
	}
	return api.OK
}

// firstOf: the first of the errors.
func firstOf(errors ...api.Errno) api.Errno {
	for _, e := range errors {
		if e != api.OK {
			return e
		}
	}
	return api.OK
}

// when: the error, if it applies.
func when(applies bool, e api.Errno) api.Errno {
	if applies {
		return e
	}
	return api.OK
}

// trueRequestBytes: P14.4.
func trueRequestBytes(r web.Request) (string, api.Errno) {
	fields := truePrinted(r.Fields, r.Body, len(r.Body) > 0)
	start, text := r.Method+" "+r.Target+" HTTP/1."+strconv.Itoa(r.Minor), trueText(fields)
	e := firstOf(
		when(len(start) > 8000, api.ErrTarget),
		when(len(text) > 16384, api.ErrLong),
		when(!tokenForm.MatchString(wide(r.Method)) || !visibleForm.MatchString(wide(r.Target)), api.ErrStart),
		when(!methodForm.MatchString(r.Method), api.ErrMethod),
		when(r.Minor != 0 && r.Minor != 1, api.ErrProtocol),
		trueForms(fields),
		when(!trueHost(fields, r.Minor), api.ErrHost),
		when(len(r.Body) > 1048576, api.ErrLength),
	)
	if e != api.OK {
		return "", e
	}
	return start + "\r\n" + text + string(r.Body), api.OK
}

// trueResponseBytes: P14.5.
func trueResponseBytes(r web.Response) (string, api.Errno) {
	none := bodiless.MatchString(strconv.Itoa(r.Status))
	fields := truePrinted(r.Fields, r.Body, !none)
	text := trueText(fields)
	e := firstOf(
		when(len(text) > 16384, api.ErrLong),
		when(r.Minor != 0 && r.Minor != 1, api.ErrProtocol),
		when(r.Status < 100 || r.Status > 599, api.ErrStatus),
		trueForms(fields),
		when(len(r.Body) > 1048576 || len(r.Body) > 0 && none, api.ErrLength),
	)
	if e != api.OK {
		return "", e
	}
	return "HTTP/1." + strconv.Itoa(r.Minor) + " " + strconv.Itoa(r.Status) + " " + trueReason(r.Status) + "\r\n" + text + string(r.Body), api.OK
}

// trueReason: P14.9.
func trueReason(status int) string {
	if words, ok := map[int]string{
		100: "Continue", 200: "OK", 204: "No Content", 301: "Moved Permanently", 302: "Found", 304: "Not Modified", 400: "Bad Request", 403: "Forbidden",
		404: "Not Found", 405: "Method Not Allowed", 408: "Request Timeout", 409: "Conflict", 410: "Gone", 411: "Length Required", 413: "Content Too Large", 414: "URI Too Long",
		429: "Too Many Requests", 431: "Request Header Fields Too Large", 500: "Internal Server Error", 501: "Not Implemented", 502: "Bad Gateway", 503: "Service Unavailable", 504: "Gateway Timeout", 505: "HTTP Version Not Supported",
	}[status]; ok {
		return words
	}
	return "Status " + strconv.Itoa(status)
}

// truePath: P14.10.
func truePath(target string) (path, query string, e api.Errno) {
	path, query, _ = strings.Cut(target, "?")
	if !pathForm.MatchString(wide(path)) || pathTaboo.MatchString(path) || !queryForm.MatchString(wide(query)) {
		return "", "", api.ErrTarget
	}
	path = tripleForm.ReplaceAllStringFunc(path, func(triple string) string {
		n, _ := strconv.ParseUint(triple[1:], 16, 8)
		return string([]byte{byte(n)})
	})
	return path, query, api.OK
}

// trueEscape: P14.11.
func trueEscape(path string) (string, api.Errno) {
	if !escapable.MatchString(wide(path)) {
		return "", api.ErrTarget
	}
	return notPlain.ReplaceAllStringFunc(wide(path), func(letter string) string {
		return "%" + strings.ToUpper(strconv.FormatUint(uint64(narrow(letter)[0]), 16))
	}), api.OK
}
