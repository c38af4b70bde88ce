package witness

import (
	"slices"

	"ledger/api"
	"ledger/note"
	"ledger/proof"
	"ledger/tlog"
)

const maxName = 30 // bytes of a witness's name

// known: a log of the Config, and the last head of it that was cosigned.
type known struct {
	verifier string
	last     note.Head
}

func isName(name string) bool {
	if len(name) < 1 || len(name) > maxName {
		return false
	}
	for _, b := range []byte(name) {
		if (b < 'a' || b > 'z') && (b < '0' || b > '9') {
			return false
		}
	}
	return true
}

func isConfig(c Config) bool {
	if len(c.Logs) > maxLogs {
		return false
	}
	for i, l := range c.Logs {
		ahead := c.Logs[:i]
		if !isLog(l) || slices.ContainsFunc(ahead, func(other Log) bool { return other.Origin == l.Origin }) {
			return false
		}
	}
	_, e := note.ParseSigner(c.Signer)
	return e == api.OK
}

func isLog(l Log) bool {
	_, e := note.ParseVerifier(l.Verifier)
	return e == api.OK && note.CheckName(l.Origin) == api.OK
}

// recognize: the log whose head a note is, signed by that log's key, and the head.
func (w *Witness) recognize(message []byte) (*known, note.Head, api.Errno) {
	text, _, e := note.Split(message)
	if e != api.OK {
		return nil, note.Head{}, e
	}
	head, e := note.ParseHead(text)
	if e != api.OK {
		return nil, note.Head{}, e
	}
	log, ok := w.logs[head.Origin]
	if !ok {
		return nil, note.Head{}, api.ErrOrigin
	}
	if _, e = note.Open(message, []string{log.verifier}); e != api.OK {
		return nil, note.Head{}, e
	}
	if head.Size == 0 && head.Root != tlog.EmptyHash(w.strength) {
		return nil, note.Head{}, api.ErrHead
	}
	return log, head, api.OK
}

// follows: OK, if the path shows that the next head goes on from the last one, and old is that one's size. From no records every tree goes on.
func (w *Witness) follows(last, next note.Head, old int64, path []api.Hash) api.Errno {
	switch {
	case old < 0 || old > next.Size:
		return api.ErrArg
	case old != last.Size:
		return api.ErrConflict
	case old > 0:
		return proof.CheckTree(w.strength, path, next.Size, next.Root, old, last.Root)
	case len(path) > 0:
		return api.ErrProofLength
	}
	return api.OK
}
