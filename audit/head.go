package audit

import (
	"ledger/api"
	"ledger/client"
	"ledger/note"
	"ledger/tlog"
	"ledger/web"
)

const (
	statusOK = 200
	minLimit = 1
	maxLimit = api.MaxBytes
)

// signed: a head, and the note that carried it.
type signed struct {
	head note.Head
	note []byte
}

func isConfig(c client.Config) bool {
	if note.CheckName(c.Origin) != api.OK || c.Height < 1 || c.Height > api.MaxHeight || c.Limit < minLimit || c.Limit > maxLimit {
		return false
	}
	_, e := note.ParseVerifier(c.Verifier)
	return e == api.OK
}

// readHead: a signed head of the log; it keeps the message.
func readHead(c client.Config, message []byte) (signed, api.Errno) {
	opened, e := note.Open(message, []string{c.Verifier})
	if e != api.OK {
		return signed{}, e
	}
	head, e := note.ParseHead(opened.Text)
	switch {
	case e != api.OK:
		return signed{}, e
	case head.Origin != c.Origin:
		return signed{}, api.ErrOrigin
	case head.Size == 0 && head.Root != tlog.EmptyHash(c.Strength):
		return signed{}, api.ErrHead
	}
	return signed{head: head, note: message}, api.OK
}

// look: the body of an answer.
func look(c client.Config, answer []byte) ([]byte, api.Errno) {
	if len(answer) > c.Limit {
		return nil, api.ErrResponse
	}
	response, size, e := web.ParseResponse(answer)
	if e != api.OK || size != len(answer) {
		return nil, api.ErrResponse
	}
	if response.Status != statusOK {
		return nil, api.ErrRefused
	}
	return response.Body, api.OK
}

// requestOf: the targets that a reading asks for are all such as web prints.
func requestOf(target string) []byte {
	b, _ := web.FormatRequest(web.Request{Method: "GET", Target: target, Minor: 1, Fields: []web.Field{{Name: "Host", Value: "ledger"}}})
	return b
}
