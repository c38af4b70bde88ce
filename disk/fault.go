package disk

import "ledger/api"

// Fail: the n-th act from now on (1: the next one) answers ErrIO or ErrFull and does nothing; or, with ErrDead, is done, but answers ErrDead, and so does everything from then on. n below 1: no act. ErrArg, if e is none of the three.
func (d *Disk) Fail(n int, e api.Errno) api.Errno {
	if e != api.ErrIO && e != api.ErrFull && e != api.ErrDead {
		return api.ErrArg
	}
	if d.dead {
		return api.ErrDead
	}
	d.until, d.fault = max(n, 0), e
	return api.OK
}

// due counts one act down, and tells the fault of the one that Fail has named.
func (d *Disk) due() api.Errno {
	if d.until == 0 {
		return api.OK
	}
	d.until--
	if d.until > 0 {
		return api.OK
	}
	return d.fault
}
