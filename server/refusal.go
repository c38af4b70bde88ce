package server

import (
	"errors"

	"ledger/web"
)

// All refusals inside, one for each status that this layer gives of itself.
var (
	errRequest = errors.New("no request that may be")
	errAbsent  = errors.New("nothing is there")
	errMethod  = errors.New("a method that is not allowed")
	errLog     = errors.New("the log cannot tell it")
)

const (
	statusOK         = 200
	statusBadRequest = 400
	statusNotFound   = 404
	statusNotAllowed = 405
	statusBroken     = 500
)

// refusal: a sentinel, and the status with which it is answered.
type refusal struct {
	err    error
	status int
}

func refusals() [4]refusal {
	return [4]refusal{
		{errRequest, statusBadRequest},
		{errAbsent, statusNotFound},
		{errMethod, statusNotAllowed},
		{errLog, statusBroken},
	}
}

func statusOf(err error) int {
	for _, row := range refusals() {
		if errors.Is(err, row.err) {
			return row.status
		}
	}
	return statusBroken
}

// refused: the answer with a status other than 200.
func refused(status int) answer {
	return answer{status: status, kind: plainText, body: []byte(web.Reason(status) + lineEnd)}
}
