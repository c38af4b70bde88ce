package disk

import "ledger/api"

// act is the frame of the six acts: own is the act's own error, do what it does if it has none. An act's own error comes ahead of the one that Fail has named, and uses it up.
func (d *Disk) act(own api.Errno, do func()) api.Errno {
	if d.dead {
		return api.ErrDead
	}
	d.acts++
	fault := d.due()
	switch {
	case own != api.OK:
		return own
	case fault == api.OK:
		do()
	case fault == api.ErrDead: // it is done: the machine dies behind it
		do()
		d.dead = true
	}
	return fault
}

// Create: a new empty file of this name; a file that had the name loses it.
func (d *Disk) Create(name string) api.Errno {
	return d.act(nameError(name), func() {
		d.release(name)
		f := &file{}
		d.change(func(n names) { n[name] = f })
	})
}

// Write: the bytes at this place of the file, which grows, with zeros in a gap. ErrAbsent; ErrArg (at below 0 or above MaxBytes); ErrFull.
func (d *Disk) Write(name string, at int, data []byte) api.Errno {
	f, own := d.find(name)
	if own == api.OK {
		own = d.writeError(f, at, data)
	}
	return d.act(own, func() {
		if len(data) > 0 {
			d.write(f, at, data)
		}
	})
}

// writeError lets a write through that grows nothing, even where more is used than there is room: a crash may leave such a disk.
func (d *Disk) writeError(f *file, at int, data []byte) api.Errno {
	if at < 0 || at > api.MaxBytes {
		return api.ErrArg
	}
	if g := growth(f, at, data); g > 0 && d.used+g > d.room {
		return api.ErrFull
	}
	return api.OK
}

// Sync: what was written to this file lasts. ErrAbsent.
func (d *Disk) Sync(name string) api.Errno {
	f, own := d.find(name)
	return d.act(own, func() { d.settle(f) })
}

// SyncNames: what was done to names lasts.
func (d *Disk) SyncNames() api.Errno {
	return d.act(api.OK, d.settleNames)
}

// Rename: the file from is named to; a file that had the name to loses it. ErrAbsent.
func (d *Disk) Rename(from, to string) api.Errno {
	own := nameError(to)
	if own == api.OK {
		_, own = d.find(from)
	}
	return d.act(own, func() {
		if from != to {
			d.release(to)
		}
		d.change(func(n names) {
			f := n[from]
			delete(n, from)
			n[to] = f
		})
	})
}

// Remove: the file loses its name. ErrAbsent.
func (d *Disk) Remove(name string) api.Errno {
	_, own := d.find(name)
	return d.act(own, func() {
		d.release(name)
		d.change(func(n names) { delete(n, name) })
	})
}
