package world

import (
	"ledger/api"
	"ledger/disk"
	"ledger/modver"
	"ledger/note"
	"ledger/server"
	"ledger/sha"
	"ledger/store"
	"ledger/text"
)

// numbered: the SHA-256 of a word and a number, by which scripts stand for keys and sums.
func numbered(word string, n int64) [32]byte {
	return sha.Sum256([]byte(word + " " + text.FormatNumber(n)))
}

func errorNumber(e api.Errno) string { return text.FormatNumber(int64(e)) }

func (w *World) makeLog(l *line) string {
	origin, n := l.texts[0], l.numbers
	signer, verifier, e := note.Generate(origin, int(n[2]), numbered("seed", n[3]))
	if e != api.OK {
		return l.refuse(e)
	}
	d, e := disk.New(n[4])
	if e != api.OK {
		return l.refuse(e)
	}
	config := store.Config{Origin: origin, Signer: signer, Strength: int(n[0]), Height: int(n[1])}
	s, e := server.Create(d, config)
	if e != api.OK {
		return l.refuse(e)
	}
	w.logs[l.names[0]] = &logActor{machine: machine{d}, config: config, verifier: verifier, server: s}
	return l.ok()
}

func (w *World) add(l *line) string {
	var records []string
	for i, sum := range l.numbers {
		r, e := modver.Record(l.texts[2*i], l.texts[2*i+1], numbered("tree", sum), numbered("mod", sum))
		if e != api.OK {
			return l.refuse(e)
		}
		records = append(records, r)
	}
	return w.append(l, records)
}

func (w *World) put(l *line) string { return w.append(l, l.texts) }

func (w *World) append(l *line, records []string) string {
	ids, e := w.logs[l.names[0]].server.Append(records)
	if e != api.OK {
		return l.refuse(e)
	}
	var told []string
	for _, id := range ids {
		told = append(told, text.FormatNumber(id))
	}
	return l.ok(told...)
}

func (w *World) ask(l *line) string {
	return l.tell(text.Quote(w.logs[l.names[0]].server.Serve([]byte(l.texts[0]))))
}

func (w *World) head(l *line) string {
	s := w.logs[l.names[0]].server
	return l.tell(text.FormatNumber(s.Size()), text.Quote(s.Head()))
}

func (w *World) fail(l *line) string {
	a, _ := w.actor(l.names[0])
	if e := a.fail(int(l.numbers[0]), l.failure); e != api.OK {
		return l.refuse(e)
	}
	return l.ok()
}

func (w *World) crash(l *line) string {
	var choices []int
	for _, n := range l.numbers {
		choices = append(choices, int(n))
	}
	a, _ := w.actor(l.names[0])
	a.crash(choices)
	return w.open(l)
}

func (w *World) open(l *line) string {
	a, _ := w.actor(l.names[0])
	size, e := a.open()
	if e != api.OK {
		return l.refuse(e)
	}
	return l.ok(text.FormatNumber(size))
}
