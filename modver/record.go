package modver

import (
	"strings"

	"ledger/api"
	"ledger/text"
)

const (
	sumStart = "h1:"
	goMod    = "/go.mod" // behind the version, where the sum is that of this file alone
	blank    = " "
	lineEnd  = "\n"
)

// Sum: h1: and the base64 of the 32 bytes.
func Sum(h [32]byte) string { return sumStart + text.EncodeBase64(h[:]) }

// ParseSum: of just what Sum gives; ErrSum else.
func ParseSum(s string) ([32]byte, api.Errno) {
	letters, ok := strings.CutPrefix(s, sumStart)
	if !ok {
		return [32]byte{}, api.ErrSum
	}
	b, e := text.DecodeBase64(letters)
	if e != api.OK || len(b) != 32 {
		return [32]byte{}, api.ErrSum
	}
	return [32]byte(b), api.OK
}

// Record: the two lines: path version sum; path version/go.mod sum. ErrModPath, ErrVersion.
func Record(path, version string, tree, mod [32]byte) (string, api.Errno) {
	if _, e := partsFor(path, version); e != api.OK {
		return "", e
	}
	return line(path, version, Sum(tree)) + line(path, version+goMod, Sum(mod)), api.OK
}

func line(path, version, sum string) string {
	return path + blank + version + blank + sum + lineEnd
}

// ParseRecord: of just what Record gives: the path, the version, the two sums. ErrRecord (not two whole lines of three words each, parted by one blank; lines that don't belong together), then ErrModPath, ErrVersion, ErrSum.
func ParseRecord(s string) (path, version string, tree, mod [32]byte, e api.Errno) {
	first, second, ok := twoLines(s)
	if !ok || second.path != first.path || second.version != first.version+goMod {
		return "", "", [32]byte{}, [32]byte{}, api.ErrRecord
	}
	tree, mod, e = readWords(first, second)
	if e != api.OK {
		return "", "", [32]byte{}, [32]byte{}, e
	}
	return first.path, first.version, tree, mod, api.OK
}

// words: of one line, as they stand there.
type words struct{ path, version, sum string }

// twoLines: the words of a record's lines; false, if s has not the form of two such lines.
func twoLines(s string) (first, second words, ok bool) {
	if len(s) > api.MaxRecord {
		return words{}, words{}, false
	}
	lines, e := text.Lines(s)
	if e != api.OK || len(lines) != 2 {
		return words{}, words{}, false
	}
	first, ok = threeWords(lines[0])
	if !ok {
		return words{}, words{}, false
	}
	second, ok = threeWords(lines[1])
	return first, second, ok
}

func threeWords(line string) (words, bool) {
	l := strings.Split(line, blank)
	if len(l) != 3 || l[0] == "" || l[1] == "" || l[2] == "" {
		return words{}, false
	}
	return words{l[0], l[1], l[2]}, true
}

// readWords: the sums of two lines that belong together, once the path and the version have been checked. ErrModPath, ErrVersion, ErrSum.
func readWords(first, second words) (tree, mod [32]byte, e api.Errno) {
	if _, e = partsFor(first.path, first.version); e != api.OK {
		return tree, mod, e
	}
	if tree, e = ParseSum(first.sum); e != api.OK {
		return tree, mod, e
	}
	mod, e = ParseSum(second.sum)
	return tree, mod, e
}
