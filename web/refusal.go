package web

import (
	"errors"

	"ledger/api"
)

// All refusals inside. Their numbers and statuses stand in the table of refusals, and nowhere else.
var (
	errArg      = errors.New("a number that may not be")
	errTooLong  = errors.New("above its bound")
	errShort    = errors.New("the message ends too early")
	errStart    = errors.New("no first line")
	errProtocol = errors.New("neither version 1.0 nor 1.1")
	errField    = errors.New("a field that may not be")
	errHost     = errors.New("no one host")
	errLength   = errors.New("a body above its bound")
	errChunk    = errors.New("no chunk")
	errTarget   = errors.New("no target")
	errMethod   = errors.New("no known method")
	errStatus   = errors.New("no status")
)

// refusal: a sentinel, the number by which the face tells it, and the status with which a server answers such a request.
type refusal struct {
	err    error
	number api.Errno
	status int
}

// statusOther: of what no request is refused with.
const statusOther = 500

func refusals() [12]refusal {
	return [12]refusal{
		{errArg, api.ErrArg, statusOther},
		{errTooLong, api.ErrLong, 431},
		{errShort, api.ErrShort, 400},
		{errStart, api.ErrStart, 400},
		{errProtocol, api.ErrProtocol, 505},
		{errField, api.ErrField, 400},
		{errHost, api.ErrHost, 400},
		{errLength, api.ErrLength, 413},
		{errChunk, api.ErrChunk, 400},
		{errTarget, api.ErrTarget, 414},
		{errMethod, api.ErrMethod, 501},
		{errStatus, api.ErrStatus, statusOther},
	}
}

// numberOf: OK of no error.
func numberOf(err error) api.Errno {
	for _, row := range refusals() {
		if errors.Is(err, row.err) {
			return row.number
		}
	}
	return api.OK
}

// StatusOf: the status with which a server answers a request that ParseRequest refuses so: 400, 414, 431, 501, 505, .. as the chapter's table has it.
func StatusOf(e api.Errno) int {
	if e == api.OK {
		return 200
	}
	for _, row := range refusals() {
		if row.number == e {
			return row.status
		}
	}
	return statusOther
}

// placed: a refusal that counts as another one because of the place where it was met.
type placed struct {
	counts, found error
}

func (p placed) Error() string { return p.counts.Error() + ": " + p.found.Error() }

func (p placed) Unwrap() error { return p.counts }

// tooLongAs: what is above its bound counts as the place's own refusal; every other error stays as it is.
func tooLongAs(place, err error) error {
	if errors.Is(err, errTooLong) {
		return placed{counts: place, found: err}
	}
	return err
}
