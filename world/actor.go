package world

import (
	"slices"

	"ledger/api"
	"ledger/cache"
	"ledger/client"
	"ledger/disk"
	"ledger/server"
	"ledger/store"
)

const (
	clientRoom = 1 << 30 // bytes of a client's disk
	cacheName  = "c"
)

// actor: a log or a client.
type actor interface {
	files() []disk.File
	fail(n int, e api.Errno) api.Errno
	crash(choices []int)
	open() (size int64, e api.Errno) // with an error the actor is down
	isDown() bool
}

// machine: what every actor has, also while it is down.
type machine struct{ disk *disk.Disk }

func (m *machine) files() []disk.File { return m.disk.Files() }

func (m *machine) fail(n int, e api.Errno) api.Errno { return m.disk.Fail(n, e) }

func (m *machine) crash(choices []int) { m.disk = m.disk.Crash(choices) }

type logActor struct {
	machine
	config   store.Config
	verifier string
	server   *server.Server // nil while it is down
}

func (a *logActor) isDown() bool { return a.server == nil }

func (a *logActor) open() (int64, api.Errno) {
	var e api.Errno
	a.server, e = server.Open(a.disk, a.config)
	if e != api.OK {
		return 0, e
	}
	return a.server.Size(), api.OK
}

type clientActor struct {
	machine
	config  client.Config
	room    int            // tiles of its cache
	cache   *cache.Cache   // nil while it is down
	session *client.Client // likewise
	asks    *logActor
	earlier []client.Fact // of the sessions that have ended
	forged  [][]byte      // answers that wait, the oldest first
}

func (a *clientActor) isDown() bool { return a.session == nil }

func (a *clientActor) open() (int64, api.Errno) {
	a.end()
	files, e := cache.Open(a.disk, cacheName, a.room)
	if e != api.OK {
		return 0, e
	}
	session, e := client.New(a.config, files)
	if e != api.OK {
		return 0, e
	}
	a.cache, a.session = files, session
	return session.Head().Size, api.OK
}

// end: of the session; its facts stay.
func (a *clientActor) end() {
	a.earlier = a.facts()
	a.cache, a.session, a.forged = nil, nil, nil
}

// facts: of all sessions, in their order.
func (a *clientActor) facts() []client.Fact {
	if a.isDown() {
		return a.earlier
	}
	return slices.Concat(a.earlier, a.session.Facts())
}

func (w *World) actor(name string) (actor, bool) {
	if a, ok := w.logs[name]; ok {
		return a, true
	}
	if a, ok := w.clients[name]; ok {
		return a, true
	}
	return nil, false
}

// early: the word by which the line ends ahead of being played; none, if it is played. (In every form the NAMEs stand first, so that name i is of kind i.)
func (w *World) early(l *line) string {
	if l.kinds[0] == newActor {
		if end := w.noRoom(l.word, l.names[0]); end != "" {
			return end
		}
	}
	for i, name := range l.names {
		if !w.isThere(l.kinds[i], name) {
			return "nobody"
		}
	}
	for i, name := range l.names {
		if kind := l.kinds[i]; kind == upLog && w.logs[name].isDown() || kind == upClient && w.clients[name].isDown() {
			return "down"
		}
	}
	return ""
}

// noRoom: why there can't be an actor of this name more; none, if there can.
func (w *World) noRoom(word, name string) string {
	if _, taken := w.actor(name); taken {
		return "taken"
	}
	if word == "log" && len(w.logs) >= MaxActors || word == "client" && len(w.clients) >= MaxActors {
		return "full"
	}
	return ""
}

// isThere: an actor of the kind that is asked for; one that is to be made need not be there.
func (w *World) isThere(kind byte, name string) bool {
	_, isLog := w.logs[name]
	_, isClient := w.clients[name]
	switch kind {
	case upLog, anyLog:
		return isLog
	case upClient, anyClient:
		return isClient
	case anyActor:
		return isLog || isClient
	}
	return true
}
