package audit

import (
	"bytes"
	"iter"
	"slices"
	"strconv"

	"ledger/api"
	"ledger/client"
)

const (
	lineEnd    = '\n'
	maxDigits  = len("65536") // of a note's length
	lengthSize = 2            // bytes that tell a record's length
)

// saved: the one form of what was read.
func (b *book) saved() []byte {
	state := append([]byte(strconv.Itoa(len(b.note))), lineEnd)
	state = append(state, b.note...)
	for record := range b.records.all() {
		state = append(state, byte(len(record)>>8), byte(len(record)))
		state = append(state, record...)
	}
	return state
}

// load: into a book in which nothing stands; false, if the state is not what such a book would save under this config.
func (b *book) load(c client.Config, state []byte) bool {
	message, rest, ok := cutNote(state)
	if !ok {
		return false
	}
	var entries []entry
	for record, whole := range savedRecords(rest) {
		if !whole || len(entries) == maxHeld {
			return false
		}
		found, e := entryOf(string(record))
		if e != api.OK {
			return false
		}
		entries = append(entries, found)
	}
	if len(message) == 0 || len(entries) == 0 {
		return len(message) == 0 && len(entries) == 0
	}
	to, e := readHead(c, bytes.Clone(message))
	return e == api.OK && b.extend(to, slices.Values(entries))
}

// cutNote: the note, and what stands behind it.
func cutNote(state []byte) (message, rest []byte, ok bool) {
	end := bytes.IndexByte(state[:min(len(state), maxDigits+1)], lineEnd)
	if end < 0 {
		return nil, nil, false
	}
	digits, rest := string(state[:end]), state[end+1:]
	size, err := strconv.Atoi(digits)
	if err != nil || strconv.Itoa(size) != digits || size < 0 || size > api.MaxNote || size > len(rest) {
		return nil, nil, false
	}
	return rest[:size], rest[size:], true
}

// savedRecords: one by one; false behind the last whole one, if bytes are left there that are none.
func savedRecords(data []byte) iter.Seq2[[]byte, bool] {
	return func(yield func([]byte, bool) bool) {
		rest := data // each loop over the records has one of its own
		for len(rest) > 0 {
			record, behind, ok := firstRecord(rest)
			if !yield(record, ok) || !ok {
				return
			}
			rest = behind
		}
	}
}

func firstRecord(data []byte) (record, behind []byte, ok bool) {
	if len(data) < lengthSize {
		return nil, nil, false
	}
	size := int(data[0])<<8 + int(data[1])
	data = data[lengthSize:]
	if size > api.MaxRecord || size > len(data) {
		return nil, nil, false
	}
	return data[:size], data[size:], true
}
