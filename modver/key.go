package modver

import (
	"cmp"
	"slices"
	"strings"

	"ledger/api"
)

const (
	keyMark = "@"
	maxKeys = 4096 // of one list that is sorted
)

// partsFor: of a version that fits the path. ErrModPath, ErrVersion.
func partsFor(path, version string) (parts, api.Errno) {
	major, e := majorOf(path)
	if e != api.OK {
		return parts{}, e
	}
	v, e := partsOf(version)
	if e != api.OK {
		return parts{}, e
	}
	if !v.fits(major) {
		return parts{}, api.ErrVersion
	}
	return v, api.OK
}

// Key: path@version. ErrModPath, ErrVersion.
func Key(path, version string) (string, api.Errno) {
	if _, e := partsFor(path, version); e != api.OK {
		return "", e
	}
	return path + keyMark + version, api.OK
}

// entry: a key that has been read.
type entry struct {
	path, version string
	parts         parts
}

func readKey(s string) (entry, api.Errno) {
	path, version, ok := strings.Cut(s, keyMark)
	if !ok || strings.Contains(version, keyMark) {
		return entry{}, api.ErrKey
	}
	v, e := partsFor(path, version)
	if e != api.OK {
		return entry{}, e
	}
	return entry{path, version, v}, api.OK
}

// ParseKey: of just what Key gives. ErrKey (no @, or more than one), ErrModPath, ErrVersion.
func ParseKey(s string) (path, version string, e api.Errno) {
	read, e := readKey(s)
	return read.path, read.version, e
}

// Sort: keys in the order of their paths' bytes, then of their versions, then of their own bytes; new memory. ErrLong above 4096 keys; the first error of a key.
func Sort(keys []string) ([]string, api.Errno) {
	if len(keys) > maxKeys {
		return nil, api.ErrLong
	}
	entries := make([]entry, len(keys))
	for i, key := range keys {
		read, e := readKey(key)
		if e != api.OK {
			return nil, e
		}
		entries[i] = read
	}
	slices.SortFunc(entries, compareEntries)
	sorted := make([]string, len(entries))
	for i, read := range entries {
		sorted[i] = read.path + keyMark + read.version
	}
	return sorted, api.OK
}

func compareEntries(a, b entry) int {
	return cmp.Or(order(a.path, b.path), compareParts(a.parts, b.parts), order(a.version, b.version))
}
