package client

import (
	"ledger/api"
	"ledger/modver"
	"ledger/note"
	"ledger/server"
	"ledger/tlog"
)

const (
	latestTarget = "/latest"
	lookupTarget = "/lookup/"
)

// signed: a head, and the note that carried it.
type signed struct {
	head note.Head
	note []byte
}

func (c Config) isRight() bool {
	if note.CheckName(c.Origin) != api.OK || c.Height < 1 || c.Height > api.MaxHeight || c.Limit < minLimit || c.Limit > maxLimit {
		return false
	}
	_, e := note.ParseVerifier(c.Verifier)
	return e == api.OK
}

// noRecords: what is trusted ahead of every head.
func (c Config) noRecords() signed {
	return signed{head: note.Head{Origin: c.Origin, Root: tlog.EmptyHash(c.Strength)}}
}

// readHead: a signed head of the log; it keeps the message.
func (c Config) readHead(message []byte) (signed, error) {
	opened, e := note.Open(message, []string{c.Verifier})
	if e != api.OK {
		return signed{}, e
	}
	head, e := note.ParseHead(opened.Text)
	switch {
	case e != api.OK:
		return signed{}, e
	case head.Origin != c.Origin:
		return signed{}, api.ErrOrigin
	case head.Size == 0 && head.Root != tlog.EmptyHash(c.Strength):
		return signed{}, api.ErrHead
	}
	return signed{head: head, note: message}, nil
}

// newLookup: of a key that modver takes.
func newLookup(c *Client, path, version string) *task {
	escapedPath, _ := modver.EscapePath(path)
	escapedVersion, _ := modver.EscapeVersion(version)
	target := lookupTarget + escapedPath + "@" + escapedVersion
	return newTask(c, func(t *task) phase {
		t.lookup = &lookup{path: path, version: version}
		return phase{want: only(target), take: t.takeLookup}
	})
}

func newLatest(c *Client) *task {
	return newTask(c, func(t *task) phase {
		return phase{want: only(latestTarget), take: func(answers [][]byte) error {
			body, err := c.config.look(answers[0])
			if err != nil {
				return err
			}
			return t.takeHead(body)
		}}
	})
}

// newMerge: the task keeps the head.
func newMerge(c *Client, head []byte) *task {
	return newTask(c, func(t *task) phase {
		return phase{want: nothing, take: func([][]byte) error { return t.takeHead(head) }}
	})
}

// takeLookup: nothing of the answer counts as the log's ahead of its head's signature, so the record is only held against what was asked for here.
func (t *task) takeLookup(answers [][]byte) error {
	body, err := t.session.config.look(answers[0])
	if err != nil {
		return err
	}
	id, record, head, e := server.ParseLookup(body)
	if e != api.OK {
		return e
	}
	path, version, _, _, _ := modver.ParseRecord(record) // ParseLookup took it
	if path != t.lookup.path || version != t.lookup.version {
		return api.ErrOther
	}
	t.lookup.id, t.lookup.record = id, record
	return t.takeHead(head)
}

// takeHead: the new head is told.
func (t *task) takeHead(message []byte) error {
	fresh, err := t.session.config.readHead(message)
	if err != nil {
		return err
	}
	if t.lookup != nil && t.lookup.id >= fresh.head.Size {
		return api.ErrIdRange
	}
	return t.meet(fresh)
}

// meet: what lies between the new head and the trusted one has to be read of the greater one's tree; of one size the roots alone tell.
func (t *task) meet(fresh signed) error {
	trusted := t.session.trusted
	if fresh.head.Size == trusted.head.Size && fresh.head.Root != trusted.head.Root {
		return forked{Fork{Small: trusted.note, Great: fresh.note, Root: fresh.head.Root}}
	}
	t.fresh, t.small, t.great = fresh, fresh, trusted
	if t.moves() {
		t.small, t.great = trusted, fresh
	}
	t.plan()
	return nil
}

// moves: would the new head take the trusted one's place?
func (t *task) moves() bool { return t.fresh.head.Size > t.session.trusted.head.Size }

// hasProof: is there a tree proof between the two heads? Every tree goes on from one without records.
func (t *task) hasProof() bool { return t.small.head.Size > 0 && t.small.head.Size < t.great.head.Size }
