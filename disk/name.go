package disk

import (
	"strings"

	"ledger/api"
)

const maxName = 255

// names: which name stands for which file.
type names map[string]*file

func isName(s string) bool {
	if len(s) > maxName {
		return false
	}
	for i := range len(s) {
		if s[i] < 0x21 || s[i] > 0x7e {
			return false
		}
	}
	for _, piece := range strings.Split(s, "/") {
		if piece == "" || piece == "." || piece == ".." {
			return false
		}
	}
	return true
}

func nameError(s string) api.Errno {
	if !isName(s) {
		return api.ErrFile
	}
	return api.OK
}

// find: the file that has this name now; ErrFile, ErrAbsent.
func (d *Disk) find(name string) (*file, api.Errno) {
	if !isName(name) {
		return nil, api.ErrFile
	}
	f, ok := d.now[name]
	if !ok {
		return nil, api.ErrAbsent
	}
	return f, api.OK
}
