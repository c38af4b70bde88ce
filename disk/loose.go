package disk

import "bytes"

// file: bytes that may have a name. It keeps its loose writes whatever becomes of its name.
type file struct {
	now     []byte
	lasting []byte       // as they were when Sync was last done
	loose   []looseWrite // they lead from lasting to now
}

// looseWrite: a write that a crash may lose, in whole or behind its first bytes.
type looseWrite struct {
	turn  int // its place among the writes of all files
	size  int
	again func(old []byte, n int) []byte // lays its first n bytes over old once more
}

// nameAct: a names' act that a crash may lose.
type nameAct struct {
	again func(names) // does it once more on the names that are left
}

// written: data from at on over old, which it changes and grows, with zeros in a gap. Without data nothing grows.
func written(old []byte, at int, data []byte) []byte {
	if len(data) == 0 {
		return old
	}
	if more := at + len(data) - len(old); more > 0 {
		old = append(old, make([]byte, more)...)
	}
	copy(old[at:], data)
	return old
}

// write does a write of at least one byte and keeps it as a loose one.
func (d *Disk) write(f *file, at int, data []byte) {
	kept := bytes.Clone(data)
	w := looseWrite{turn: d.turn, size: len(kept), again: func(old []byte, n int) []byte {
		return written(old, at, kept[:n])
	}}
	d.used += growth(f, at, data)
	f.now = w.again(f.now, w.size)
	f.loose = append(f.loose, w)
	d.turn++
	d.writes++
}

func growth(f *file, at int, data []byte) int64 {
	end := int64(at) + int64(len(data))
	if len(data) == 0 || end <= int64(len(f.now)) {
		return 0
	}
	return end - int64(len(f.now))
}

// settle makes a file's bytes last by doing its loose writes again: that costs what was written, not what the file has.
func (d *Disk) settle(f *file) {
	for _, w := range f.loose {
		f.lasting = w.again(f.lasting, w.size)
	}
	d.writes -= len(f.loose)
	f.loose = nil
}

// change does a names' act and keeps it as a loose one.
func (d *Disk) change(again func(names)) {
	again(d.now)
	d.changes = append(d.changes, nameAct{again: again})
}

// release: the file of this name, if there is one, is about to lose it.
func (d *Disk) release(name string) {
	if f, ok := d.now[name]; ok {
		d.used -= int64(len(f.now))
		d.lost = append(d.lost, f)
	}
}

// settleNames makes the names last. No crash can bring back what was lost by then, so its loose writes are forgotten.
func (d *Disk) settleNames() {
	for _, a := range d.changes {
		a.again(d.lasting)
	}
	for _, f := range d.lost {
		d.writes -= len(f.loose)
	}
	d.changes, d.lost = nil, nil
}
