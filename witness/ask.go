package witness

import (
	"strings"

	"ledger/api"
	"ledger/note"
	"ledger/text"
)

const (
	maxAsk   = 69000 // bytes
	askStart = "old "
	lineEnd  = "\n"
)

// FormatAsk: old, a blank, the size; a line with the base64 of each hash; an empty line; the note. ErrArg (old below 0 or above MaxRecords), ErrLong (more than 64 hashes, a note above MaxNote), ErrAsk (no note).
func FormatAsk(old int64, proof []api.Hash, head []byte) ([]byte, api.Errno) {
	if old < 0 || old > api.MaxRecords {
		return nil, api.ErrArg
	}
	if len(proof) > maxHashes || len(head) > api.MaxNote {
		return nil, api.ErrLong
	}
	if !isNote(head) {
		return nil, api.ErrAsk
	}
	ask := []byte(askStart + text.FormatNumber(old) + lineEnd)
	for _, h := range proof {
		ask = append(ask, text.EncodeBase64(h[:])+lineEnd...)
	}
	ask = append(ask, lineEnd...)
	return append(ask, head...), api.OK
}

// ParseAsk: of just what FormatAsk gives. ErrLong, ErrAsk.
func ParseAsk(ask []byte) (old int64, proof []api.Hash, head []byte, e api.Errno) {
	if len(ask) > maxAsk {
		return 0, nil, nil, api.ErrLong
	}
	first, rest, _ := strings.Cut(string(ask), lineEnd)
	old, isOld := sizeIn(first)
	proof, rest, isProof := cutProof(rest)
	head = []byte(rest)
	if !isOld || !isProof || !isNote(head) {
		return 0, nil, nil, api.ErrAsk
	}
	return old, proof, head, api.OK
}

func isNote(message []byte) bool {
	_, _, e := note.Split(message)
	return e == api.OK
}

// sizeIn: the number in an ask's first line.
func sizeIn(line string) (int64, bool) {
	digits, ok := strings.CutPrefix(line, askStart)
	if !ok {
		return 0, false
	}
	size, e := text.ParseNumber(digits, api.MaxRecords)
	return size, e == api.OK
}

// cutProof: the hashes of the lines ahead of the first empty one, and what stands behind that.
func cutProof(s string) (path []api.Hash, rest string, ok bool) {
	for {
		line, behind, ended := strings.Cut(s, lineEnd)
		if !ended {
			return nil, "", false
		}
		if line == "" {
			return path, behind, true
		}
		h, isHash := hashIn(line)
		if !isHash || len(path) == maxHashes {
			return nil, "", false
		}
		path = append(path, h)
		s = behind
	}
}

func hashIn(line string) (h api.Hash, ok bool) {
	b, e := text.DecodeBase64(line)
	if e != api.OK || len(b) != len(h) {
		return api.Hash{}, false
	}
	return api.Hash(b), true
}
