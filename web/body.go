package web

import (
	"bytes"
	"strconv"
)

const (
	maxChunkLine = 256 // bytes, without its end
	maxDigits    = 8   // of a chunk's size
	maxChunk     = 65536
	lineEnd      = "\r\n" // of all that is printed
)

// cut: the body with which b begins, and how many bytes it takes.
func (f framing) cut(b []byte) (body []byte, size int, err error) {
	switch f.way {
	case inChunks:
		body, size, err = unchunk(b)
		return body, size, tooLongAs(errLength, err)
	case allBytes:
		if len(b) > MaxBody {
			return nil, 0, errLength
		}
		return bytes.Clone(b), len(b), nil
	case byLength:
		if len(b) < f.length {
			return nil, 0, errShort
		}
		return bytes.Clone(b[:f.length]), f.length, nil
	}
	return nil, 0, nil
}

// unchunk: the chunks' bytes put together, and how many bytes all of it takes. errTooLong, if the sizes add up to more than a body may have.
func unchunk(b []byte) ([]byte, int, error) {
	var body []byte
	rest := b
	for {
		line, taken, err := cutLine(rest, maxChunkLine)
		if err != nil {
			return nil, 0, tooLongAs(errChunk, err)
		}
		size, err := chunkSize(string(line))
		if err != nil {
			return nil, 0, err
		}
		if size > int64(MaxBody-len(body)) {
			return nil, 0, errTooLong
		}
		data, behind, err := cutChunk(rest[taken:], int(size))
		if err != nil {
			return nil, 0, err
		}
		body, rest = append(body, data...), behind
		if size == 0 {
			return body, len(b) - len(rest), nil
		}
	}
}

// chunkSize: what a chunk's line says.
func chunkSize(line string) (int64, error) {
	size, digits := int64(0), 0
scan:
	for digits < len(line) {
		digit, ok := hexDigit(line[digits])
		switch {
		case line[digits] == ';':
			break scan
		case !ok || digits == maxDigits:
			return 0, errChunk
		}
		size = size<<4 | int64(digit)
		digits++
	}
	if digits == 0 || !mayBeValue(line[digits:]) {
		return 0, errChunk
	}
	return size, nil
}

// cutChunk: so many bytes, and what stands behind the line's end that must follow them. (Of the last chunk this is the empty line.)
func cutChunk(b []byte, size int) (data, rest []byte, err error) {
	if len(b) < size {
		return nil, nil, errShort
	}
	rest = bytes.TrimPrefix(b[size:], []byte(carriageReturn))
	switch {
	case len(rest) == 0:
		return nil, nil, errShort
	case rest[0] != '\n':
		return nil, nil, errChunk
	}
	return b[:size], rest[1:], nil
}

func chunked(body []byte, size int) ([]byte, error) {
	if size < 1 || size > maxChunk {
		return nil, errArg
	}
	if len(body) > MaxBody {
		return nil, errTooLong
	}
	var b []byte
	for len(body) > 0 {
		n := min(size, len(body))
		b = strconv.AppendInt(b, int64(n), 16)
		b = append(b, lineEnd...)
		b = append(b, body[:n]...)
		b = append(b, lineEnd...)
		body = body[n:]
	}
	return append(b, "0"+lineEnd+lineEnd...), nil
}
