package note

import (
	"ledger/api"
	"ledger/text"
)

// Head: a log's origin, how many records it has, its root.
type Head struct {
	Origin string
	Size   int64
	Root   api.Hash
}

// FormatHead: three lines: origin, size, base64 of the root. ErrName (the origin is a name), ErrArg (size below 0 or above MaxRecords).
func FormatHead(h Head) (string, api.Errno) {
	if e := CheckName(h.Origin); e != api.OK {
		return "", e
	}
	if h.Size < 0 || h.Size > api.MaxRecords {
		return "", api.ErrArg
	}
	return h.Origin + lineEnd + text.FormatNumber(h.Size) + lineEnd + text.EncodeBase64(h.Root[:]) + lineEnd, api.OK
}

// ParseHead: of just the texts that FormatHead gives; ErrHead else.
func ParseHead(text string) (Head, api.Errno) {
	h, ok := readHead(text)
	if !ok {
		return Head{}, api.ErrHead
	}
	return h, api.OK
}

func readHead(s string) (Head, bool) {
	lines, e := text.Lines(s)
	if e != api.OK || len(lines) != 3 || CheckName(lines[0]) != api.OK {
		return Head{}, false
	}
	size, sizeError := text.ParseNumber(lines[1], api.MaxRecords)
	root, rootError := text.DecodeBase64(lines[2])
	if sizeError != api.OK || rootError != api.OK || len(root) != len(api.Hash{}) {
		return Head{}, false
	}
	return Head{Origin: lines[0], Size: size, Root: api.Hash(root)}, true
}
