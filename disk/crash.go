package disk

import (
	"bytes"
	"cmp"
	"maps"
	"slices"
)

// Crash: the disk that the machine finds when it runs again, of the same room, all of it synced; d itself is dead. The choices tell what lasts: see the chapter. What is missing in them is 0.
func (d *Disk) Crash(choices []int) *Disk {
	d.dead = true
	choose := chooser(choices)
	left := maps.Clone(d.lasting)
	for _, a := range d.changes[:choose(len(d.changes))] {
		a.again(left)
	}
	return laid(d.room, leftFiles(left, choose))
}

// chooser: a function that takes the next choice, as a number from 0 to most.
func chooser(choices []int) func(most int) int {
	next := 0
	return func(most int) int {
		if next == len(choices) {
			return 0
		}
		c := choices[next] % (most + 1)
		next++
		if c < 0 {
			c += most + 1
		}
		return c
	}
}

// leftWrite: a loose write, and which of the files that are left it goes to.
type leftWrite struct {
	looseWrite
	to int
}

// leftFiles: what a crash leaves of the files that have a name behind it. The choices go by the order in which the writes were done, over all files.
func leftFiles(left names, choose func(most int) int) []File {
	files := make([]File, 0, len(left))
	var writes []leftWrite
	for name, f := range left {
		for _, w := range f.loose {
			writes = append(writes, leftWrite{looseWrite: w, to: len(files)})
		}
		files = append(files, File{Name: name, Data: bytes.Clone(f.lasting)})
	}
	slices.SortFunc(writes, func(a, b leftWrite) int { return cmp.Compare(a.turn, b.turn) })
	for _, w := range writes {
		f := &files[w.to]
		f.Data = w.again(f.Data, choose(w.size))
	}
	return files
}
