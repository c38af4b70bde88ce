package lane

import (
	"bytes"
	"slices"

	"ledger/api"
)

const (
	maxFates = 65536
	maxLate  = 1000
)

func fatesError(fates []Fate) api.Errno {
	if len(fates) > maxFates {
		return api.ErrLong
	}
	if slices.ContainsFunc(fates, isNoFate) {
		return api.ErrArg
	}
	return api.OK
}

func isNoFate(f Fate) bool {
	switch f.Kind {
	case Deliver, Drop: // their number says nothing
		return false
	case Double, Delay:
		return f.N < 0 || f.N > maxLate
	case Cut, Spoil:
		return f.N < 0 || f.N > api.MaxBytes
	}
	return true
}

// takeFate: that of the message which is sent now.
func (n *Net) takeFate() Fate {
	if len(n.fates) == 0 {
		return Fate{Kind: Deliver}
	}
	f := n.fates[0]
	n.fates = n.fates[1:]
	return f
}

// send: the message goes the way of its fate. Each of its copies is memory of its own, since it is handed out as it is.
func (n *Net) send(lane int, message []byte, f Fate) {
	switch f.Kind {
	case Deliver:
		n.post(lane, bytes.Clone(message), 0)
	case Drop: // nothing comes
	case Double:
		n.post(lane, bytes.Clone(message), 0)
		n.post(lane, bytes.Clone(message), f.N)
	case Delay:
		n.post(lane, bytes.Clone(message), f.N)
	case Cut:
		n.post(lane, bytes.Clone(message[:min(f.N, len(message))]), 0)
	case Spoil:
		n.post(lane, spoilt(message, f.N), 0)
	}
}

// spoilt: a copy of the message with the lowest bit of its byte number at turned, if it has such a byte.
func spoilt(message []byte, at int) []byte {
	copied := bytes.Clone(message)
	if at < len(copied) {
		copied[at] ^= 1
	}
	return copied
}
