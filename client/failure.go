package client

import (
	"errors"

	"ledger/api"
)

// forked: ErrFork, with what proves it.
type forked struct {
	evidence Fork
}

func (f forked) Error() string { return f.Unwrap().Error() }

func (f forked) Unwrap() error { return api.ErrFork }

// numberOf: every failure of a task is an Errno, or one with more wrapped round it.
func numberOf(err error) api.Errno {
	var e api.Errno
	errors.As(err, &e)
	return e
}

// forkOf: empty, if the failure is none.
func forkOf(err error) Fork {
	var f forked
	errors.As(err, &f)
	return f.evidence
}
