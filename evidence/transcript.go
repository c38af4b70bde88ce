package evidence

import (
	"ledger/api"
	"ledger/client"
	"ledger/note"
	"ledger/tlog"
)

// maxFacts: that a transcript has.
const maxFacts = 1024

// transcript: a session's facts, each of which is right where it stands.
type transcript struct {
	events []event
	final  note.Head
}

func emptyHead(k int, origin string) note.Head {
	return note.Head{Origin: origin, Root: tlog.EmptyHash(k)}
}

// transcriptOf: ErrLong, ErrTranscript, if the facts are none.
func transcriptOf(k int, facts []client.Fact) (transcript, api.Errno) {
	if len(facts) > maxFacts {
		return transcript{}, api.ErrLong
	}
	t := transcript{final: emptyHead(k, "")}
	for _, f := range facts {
		e := eventOf(f)
		if !e.rightAt(k, t.final) {
			return transcript{}, api.ErrTranscript
		}
		switch e := e.(type) {
		case moved:
			t.final = e.head
		}
		t.events = append(t.events, e)
	}
	return t, api.OK
}

// ofOneLog: a session without facts goes with any.
func ofOneLog(a, b transcript) bool {
	return len(a.events) == 0 || len(b.events) == 0 || a.final.Origin == b.final.Origin
}

// trail: a record that was accepted, and the steps by which the session went on from there.
type trail struct {
	first accepted
	steps []step
}

// find: from the first record that was accepted for a key.
func (t transcript) find(path, version string) (found trail, ok bool) {
search:
	for i, e := range t.events {
		switch e := e.(type) {
		case accepted:
			if e.path == path && e.version == version {
				found, ok = trail{e, movesIn(t.events[i+1:])}, true
				break search
			}
		}
	}
	return found, ok
}

func movesIn(events []event) []step {
	var steps []step
	for _, e := range events {
		switch e := e.(type) {
		case moved:
			steps = append(steps, e.step)
		}
	}
	return steps
}
