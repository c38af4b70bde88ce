package web

import (
	"bytes"
	"strings"

	"ledger/text"
)

const carriageReturn = "\r" // belongs to a line's end, if it stands directly ahead of the line feed

// cutLine: the first line of b without its end, and how many bytes it takes with it. errTooLong, if it has more than most bytes; errShort, if its end may yet come.
func cutLine(b []byte, most int) (line []byte, size int, err error) {
	const longestEnd = 2
	end := bytes.IndexByte(b[:min(len(b), most+longestEnd)], '\n')
	if end < 0 && len(b) < most+longestEnd {
		return nil, 0, errShort
	}
	if end < 0 {
		return nil, 0, errTooLong
	}
	line = bytes.TrimSuffix(b[:end], []byte(carriageReturn))
	if len(line) > most {
		return nil, 0, errTooLong
	}
	return line, end + 1, nil
}

// head: all of a message up to and with the empty line.
type head struct {
	start  string // the first line, without its end
	fields string // the field lines, with their ends
	size   int
}

// cutHead: the head with which b begins. The caller says as what a first line above its bound counts, since a request and a response part there.
func cutHead(b []byte, longStart error) (head, error) {
	start, first, err := cutLine(b, MaxStart)
	if err != nil {
		return head{}, tooLongAs(longStart, err)
	}
	fields, all, err := measureFields(b[first:])
	if err != nil {
		return head{}, err
	}
	return head{start: string(start), fields: string(b[first : first+fields]), size: first + all}, nil
}

// measureFields: how many bytes the lines ahead of the first empty one take, and how many with the empty one.
func measureFields(b []byte) (fields, all int, err error) {
	within := b[:min(len(b), MaxHead)]
lines:
	for {
		line, size, err := cutLine(within[fields:], MaxHead)
		switch {
		case err != nil:
			break lines
		case len(line) == 0:
			return fields, fields + size, nil
		}
		fields += size
	}
	if len(b) > MaxHead {
		return 0, 0, errTooLong
	}
	return 0, 0, errShort
}

// readFields: of the field lines of a head.
func readFields(lines string) ([]Field, error) {
	if strings.Count(lines, "\n") > MaxFields {
		return nil, errTooLong
	}
	var fields []Field
	for _, line := range text.Each(lines) {
		name, value, ok := strings.Cut(strings.TrimSuffix(line, carriageReturn), ":")
		field := Field{Name: name, Value: trim(value)}
		if !ok || !mayBeField(field) {
			return nil, errField
		}
		fields = append(fields, field)
	}
	return fields, nil
}

// mayBeField: of a trimmed value; what was trimmed may stand in every value.
func mayBeField(field Field) bool {
	return isToken(field.Name) && mayBeValue(field.Value)
}
