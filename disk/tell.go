package disk

import (
	"bytes"
	"slices"
	"strings"

	"ledger/api"
)

// Read: the bytes, new memory. ErrDead, ErrFile, ErrAbsent.
func (d *Disk) Read(name string) ([]byte, api.Errno) {
	if d.dead {
		return nil, api.ErrDead
	}
	f, e := d.find(name)
	if e != api.OK {
		return nil, e
	}
	return bytes.Clone(f.now), api.OK
}

// List: the names that begin so, sorted by bytes; none of a dead disk.
func (d *Disk) List(prefix string) []string {
	if d.dead {
		return nil
	}
	var list []string
	for name := range d.now {
		if strings.HasPrefix(name, prefix) {
			list = append(list, name)
		}
	}
	slices.Sort(list)
	return list
}

// Files: all named files, sorted by name; none of a dead disk.
func (d *Disk) Files() []File {
	var files []File
	for _, name := range d.List("") {
		files = append(files, File{Name: name, Data: bytes.Clone(d.now[name].now)})
	}
	return files
}

// Used: how many bytes all named files have.
func (d *Disk) Used() int64 {
	if d.dead {
		return 0
	}
	return d.used
}

// Acts: how many acts have been called since New, Load or Crash, those with an error too.
func (d *Disk) Acts() int { return d.acts }

// Pending: how many acts might be lost.
func (d *Disk) Pending() int { return len(d.changes) + d.writes }
