package client

import (
	"bytes"

	"ledger/api"
	"ledger/web"
)

const (
	statusOK = 200
	minLimit = 1
	maxLimit = api.MaxBytes
)

// requestOf: the targets that a task asks for are all such as web prints.
func requestOf(target string) []byte {
	b, _ := web.FormatRequest(web.Request{Method: "GET", Target: target, Minor: 1, Fields: []web.Field{{Name: "Host", Value: "ledger"}}})
	return b
}

// kept: what is too long is refused by its length, whatever else it holds: so no more of it is kept than shows that.
func (c Config) kept(answer []byte) []byte { return bytes.Clone(answer[:min(len(answer), c.Limit+1)]) }

// look: the body of an answer.
func (c Config) look(answer []byte) ([]byte, error) {
	if len(answer) > c.Limit {
		return nil, api.ErrResponse
	}
	response, size, e := web.ParseResponse(answer)
	if e != api.OK || size != len(answer) {
		return nil, api.ErrResponse
	}
	if response.Status != statusOK {
		return nil, api.ErrRefused
	}
	return response.Body, nil
}
