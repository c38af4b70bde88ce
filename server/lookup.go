package server

import (
	"bytes"

	"ledger/api"
	"ledger/modver"
	"ledger/note"
	"ledger/text"
)

// lineEnd: of all that this layer writes itself.
const lineEnd = "\n"

// lookup: the parts of a lookup's body.
type lookup struct {
	id     int64
	record string
	head   []byte
}

func lookupBody(id int64, record string, head []byte) []byte {
	return append([]byte(text.FormatNumber(id)+lineEnd+record+lineEnd), head...)
}

// readLookup: false, if the body is none of a lookup.
func readLookup(body []byte) (lookup, bool) {
	number, rest, _ := bytes.Cut(body, []byte(lineEnd)) // without a line's end nothing is left for the record, and so it is refused
	id, e := text.ParseNumber(string(number), api.MaxRecords-1)
	if e != api.OK {
		return lookup{}, false
	}
	record, rest := cutTwoLines(rest)
	if _, _, _, _, e = modver.ParseRecord(string(record)); e != api.OK {
		return lookup{}, false
	}
	head, ok := bytes.CutPrefix(rest, []byte(lineEnd))
	if !ok {
		return lookup{}, false
	}
	if _, _, e = note.Split(head); e != api.OK {
		return lookup{}, false
	}
	return lookup{id: id, record: string(record), head: bytes.Clone(head)}, true
}

// cutTwoLines: the first two lines with their ends, and what stands behind them; where there are fewer, nothing of them is told.
func cutTwoLines(b []byte) (lines, rest []byte) {
	size := 0
	for range 2 {
		end := bytes.IndexByte(b[size:], lineEnd[0])
		if end < 0 {
			return nil, b
		}
		size += end + len(lineEnd)
	}
	return b[:size], b[size:]
}
