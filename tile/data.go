package tile

import (
	"bytes"
	"slices"

	"ledger/api"
)

// What a data tile holds at most, and how many bytes tell a record's length.
const (
	maxWidth   = 1 << api.MaxHeight
	lengthSize = 2
)

// Join: the bytes of a data tile: each record behind two bytes of its length, high byte first. ErrLong (a record above MaxRecord, more than 256 records).
func Join(records [][]byte) ([]byte, api.Errno) {
	if len(records) > maxWidth || slices.ContainsFunc(records, tooLong) {
		return nil, api.ErrLong
	}
	var data []byte
	for _, record := range records {
		data = append(data, byte(len(record)>>8), byte(len(record)))
		data = append(data, record...)
	}
	return data, api.OK
}

func tooLong(record []byte) bool { return len(record) > api.MaxRecord }

// Cut: the w records of a data tile's bytes: just of what Join gives of w records. ErrArg (w below 0 or above 256), ErrWidth.
func Cut(data []byte, w int) ([][]byte, api.Errno) {
	if w < 0 || w > maxWidth {
		return nil, api.ErrArg
	}
	var records [][]byte
	for range w {
		record, rest, ok := firstRecord(data)
		if !ok {
			return nil, api.ErrWidth
		}
		records = append(records, bytes.Clone(record))
		data = rest
	}
	if len(data) > 0 {
		return nil, api.ErrWidth
	}
	return records, api.OK
}

// firstRecord: and what lies behind it; false, if the bytes don't begin with one.
func firstRecord(data []byte) (record, rest []byte, ok bool) {
	if len(data) < lengthSize {
		return nil, nil, false
	}
	length := int(data[0])<<8 + int(data[1])
	data = data[lengthSize:]
	if length > api.MaxRecord || length > len(data) {
		return nil, nil, false
	}
	return data[:length], data[length:], true
}
