package web

import (
	"strings"

	"ledger/api"
	"ledger/text"
)

// The kinds of fields that say something of the message itself.
const (
	otherField = iota
	hostField
	connectionField
	codingField
	lengthField
)

const lengthName = "Content-Length"

// named: a name that makes a field one of a kind.
type named struct {
	name string
	kind int
}

var kinds = [...]named{
	{"Host", hostField},
	{"Connection", connectionField},
	{"Transfer-Encoding", codingField},
	{lengthName, lengthField},
}

func kindOf(field Field) int {
	for _, row := range kinds {
		if sameWord(row.name, field.Name) {
			return row.kind
		}
	}
	return otherField
}

// checkHost: a request names one host; in version 1.0 it may do without.
func checkHost(fields []Field, minor int) error {
	hosts := 0
	for _, field := range fields {
		if kindOf(field) != hostField {
			continue
		}
		if !mayBeHost(field.Value) {
			return errHost
		}
		hosts++
	}
	if hosts > 1 || hosts == 0 && minor == 1 {
		return errHost
	}
	return nil
}

// closes: is the connection to be closed, by what the fields say?
func closes(fields []Field, minor int) bool {
	closing := minor == 0
scan:
	for _, field := range fields {
		if kindOf(field) != connectionField {
			continue
		}
		for _, word := range strings.Split(field.Value, ",") {
			word = trim(word)
			switch {
			case sameWord(word, "close"):
				closing = true
				break scan // whatever is said besides
			case sameWord(word, "keep-alive"):
				closing = false
			}
		}
	}
	return closing
}

// The ways in which a body's length is told.
const (
	noBody = iota
	allBytes
	byLength
	inChunks
)

// framing: how the body is cut from the bytes behind the head; the length just of one that goes by it.
type framing struct {
	way    int
	length int
}

// framingOf: as the fields say, or by the way of a message whose fields say nothing of it.
func framingOf(fields []Field, minor, untold int) (framing, error) {
	told, chunks, length := 0, false, ""
	for _, field := range fields {
		switch kindOf(field) {
		case codingField:
			if minor == 0 || !sameWord(field.Value, "chunked") {
				return framing{}, errField
			}
			chunks = true
			fallthrough // nothing else may tell the length beside it either
		case lengthField:
			length = field.Value
			told++
		}
	}
	switch {
	case told > 1:
		return framing{}, errField
	case told == 0:
		return framing{way: untold}, nil
	case chunks:
		return framing{way: inChunks}, nil
	}
	return framingByLength(length)
}

func framingByLength(value string) (framing, error) {
	switch length, e := text.ParseNumber(value, MaxBody); e {
	case api.OK:
		return framing{way: byLength, length: int(length)}, nil
	case api.ErrRange:
		return framing{}, errLength
	}
	return framing{}, errField
}
