package witness

import (
	"errors"
	"strings"

	"ledger/api"
	"ledger/disk"
	"ledger/note"
	"ledger/text"
	"ledger/tlog"
)

// newEnd: behind the name of a file while it is written.
const newEnd = ".new"

// failed: an act of the disk has answered an error, and no act behind it is to be done.
type failed struct{ answer api.Errno }

func (f failed) Error() string { return "witness: an act of the disk: " + f.answer.Error() }

// must: gives up where an act was not answered with OK. Only what attempt is handed may ask for it.
func must(answer api.Errno) {
	if answer != api.OK {
		panic(failed{answer})
	}
}

// attempt: OK, or the answer of the act at which the acts gave up. A panic that is none of an act's is a fault of the program: it goes on.
func attempt(acts func()) (e api.Errno) {
	defer func() {
		r := recover()
		if r == nil {
			return
		}
		if err, ok := r.(error); ok {
			var f failed
			if errors.As(err, &f) {
				e = f.answer
				return
			}
		}
		panic(r)
	}()
	acts()
	return api.OK
}

// isDead: a dead disk refuses to read whatever the name is.
func isDead(d *disk.Disk) bool {
	_, e := d.Read("witness")
	return e == api.ErrDead
}

// fileOf: the file of an origin, which may hold bytes that no file's name may.
func (w *Witness) fileOf(origin string) string { return w.folder + text.EncodeHex([]byte(origin)) }

// learn: a log's last head is the one in its file; of no records, if there is no file. False, if the file holds anything else.
func (w *Witness) learn(l Log) bool {
	last := note.Head{Origin: l.Origin, Root: tlog.EmptyHash(w.strength)}
	if data, e := w.disk.Read(w.fileOf(l.Origin)); e == api.OK {
		last, e = note.ParseHead(string(data))
		if e != api.OK || last.Origin != l.Origin || last.Size == 0 {
			return false
		}
	}
	w.logs[l.Origin] = &known{verifier: l.Verifier, last: last}
	return true
}

// tidy: takes away what was not written to its end. A head that was renamed and not synced has been read as the last one: so names are synced, whether or not a file was removed.
func (w *Witness) tidy() {
	for _, name := range w.disk.List(w.folder) {
		if strings.HasSuffix(name, newEnd) {
			must(w.disk.Remove(name))
		}
	}
	must(w.disk.SyncNames())
}

// lay: the head is written under another name, so that behind every crash the old one or the new one is there, whole.
func (w *Witness) lay(head note.Head) {
	lines, _ := note.FormatHead(head)
	file := w.fileOf(head.Origin)
	must(w.disk.Create(file + newEnd))
	must(w.disk.Write(file+newEnd, 0, []byte(lines)))
	must(w.disk.Sync(file + newEnd))
	must(w.disk.Rename(file+newEnd, file))
	must(w.disk.SyncNames())
}
