package world

import (
	"ledger/api"
	"ledger/client"
	"ledger/disk"
	"ledger/evidence"
	"ledger/text"
	"ledger/tile"
)

func (w *World) makeClient(l *line) string {
	d, e := disk.New(clientRoom)
	if e != api.OK {
		return l.refuse(e)
	}
	log := w.logs[l.names[1]]
	a := &clientActor{machine: machine{d}, room: int(l.numbers[1]), asks: log}
	a.config = client.Config{Origin: log.config.Origin, Verifier: log.verifier, Strength: log.config.Strength, Height: log.config.Height, Limit: int(l.numbers[0])}
	if _, e := a.open(); e != api.OK {
		return l.refuse(e)
	}
	w.clients[l.names[0]] = a
	return l.ok()
}

func (w *World) turn(l *line) string {
	w.clients[l.names[0]].asks = w.logs[l.names[1]]
	return l.ok()
}

func (w *World) answer(l *line) string {
	a := w.clients[l.names[0]]
	a.forged = append(a.forged, []byte(l.texts[0]))
	return l.ok()
}

func (w *World) spoil(l *line) string {
	a := w.clients[l.names[0]]
	tiles, bit := a.cache.List(), l.numbers[1]
	if l.numbers[0] >= int64(len(tiles)) {
		return l.tell("none")
	}
	path, e := tile.Path(tiles[l.numbers[0]])
	if e != api.OK {
		return l.refuse(e)
	}
	name := "cache/" + cacheName + "/" + path
	data, e := a.disk.Read(name)
	if e != api.OK {
		return l.refuse(e)
	}
	if bit/8 >= int64(len(data)) {
		return l.tell("none")
	}
	turned := []byte{data[bit/8] ^ 1<<(bit%8)}
	if e := a.disk.Write(name, int(bit/8), turned); e != api.OK {
		return l.refuse(e)
	}
	return l.ok()
}

func (w *World) look(l *line) string {
	a := w.clients[l.names[0]]
	if e := a.session.Lookup(l.texts[0], l.texts[1]); e != api.OK {
		return l.refuse(e)
	}
	return a.exchange(l, func(r client.Result, asked string) string {
		return l.ok(text.FormatNumber(r.Id), "asked", asked, text.Quote([]byte(r.Record)))
	})
}

func (w *World) latest(l *line) string {
	a := w.clients[l.names[0]]
	if e := a.session.Latest(); e != api.OK {
		return l.refuse(e)
	}
	return a.exchange(l, l.taken)
}

func (w *World) merge(l *line) string {
	a, note := w.clients[l.names[0]], w.clients[l.names[1]].session.Note()
	if len(note) == 0 {
		return l.tell("none")
	}
	if e := a.session.Merge(note); e != api.OK {
		return l.refuse(e)
	}
	return a.exchange(l, l.taken)
}

// taken: a head was taken, of which nothing is told in the first line.
func (l *line) taken(_ client.Result, asked string) string { return l.ok("asked", asked) }

// exchange: the task that has begun is led to its end; what comes of it is told, with the trusted head behind it.
func (a *clientActor) exchange(l *line, well func(r client.Result, asked string) string) string {
	asked := text.FormatNumber(a.goAbout(int(l.numbers[0]), unroll(l.runs...)))
	r, head, name := a.session.Result(), a.session.Head(), l.names[0]
	story := l.tell("error", errorNumber(r.Err), "asked", asked)
	if r.Err == api.OK {
		story = well(r, asked)
	}
	story += tell("head", name, text.FormatNumber(head.Size), text.EncodeHex(head.Root[:]))
	if r.Err == api.ErrFork {
		story += a.tellFork(name, r.Fork)
	}
	return story
}

func (a *clientActor) tellFork(name string, f client.Fork) string {
	e := evidence.CheckFork(a.config.Strength, a.config.Origin, a.config.Verifier, f)
	words := []string{"fork", name, text.Quote(f.Small), text.Quote(f.Great), text.EncodeHex(f.Root[:]), errorNumber(e)}
	for _, h := range f.Proof {
		words = append(words, text.EncodeHex(h[:]))
	}
	return tell(words...)
}
