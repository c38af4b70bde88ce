package modver

import (
	"strings"

	"ledger/api"
)

const (
	numberedHost = "gopkg.in" // whose paths all end in .v and a number
	unstable     = "-unstable"
)

// reserved: the names of devices, which as a file's name some systems take for the device, with any ending.
var reserved = [...]string{
	"con", "prn", "aux", "nul",
	"com1", "com2", "com3", "com4", "com5", "com6", "com7", "com8", "com9",
	"lpt1", "lpt2", "lpt3", "lpt4", "lpt5", "lpt6", "lpt7", "lpt8", "lpt9",
}

// CheckPath: ErrModPath, if it is no module path.
func CheckPath(path string) api.Errno {
	_, e := majorOf(path)
	return e
}

// majorOf: the major of a module path, "" if it has none. ErrModPath.
func majorOf(path string) (string, api.Errno) {
	if len(path) > api.MaxPath || !allOf(path, inPath) {
		return "", api.ErrModPath
	}
	elements := strings.Split(path, "/")
	if !mayBeHost(elements[0]) {
		return "", api.ErrModPath
	}
	for _, element := range elements {
		if !mayBeElement(element) {
			return "", api.ErrModPath
		}
	}
	major, ok := majorOfElements(elements)
	if !ok {
		return "", api.ErrModPath
	}
	return major, api.OK
}

// mayBeHost: what the first element must be besides what each must be.
func mayBeHost(element string) bool {
	return strings.Contains(element, ".") && !strings.HasPrefix(element, "-") && allOf(element, inHost)
}

func mayBeElement(element string) bool {
	if element == "" || strings.HasPrefix(element, ".") || strings.HasSuffix(element, ".") {
		return false
	}
	name, _, _ := strings.Cut(element, ".")
	if isReserved(strings.ToLower(name)) {
		return false
	}
	_, short := digitsBehind(name, "~") // the form of the short names that some systems give to files
	return !short
}

func isReserved(name string) bool {
	for _, device := range reserved {
		if name == device {
			return true
		}
	}
	return false
}

// majorOfElements: false, if the last element would tell a major, or must, and does not do it in the one form.
func majorOfElements(elements []string) (string, bool) {
	last := elements[len(elements)-1]
	if elements[0] == numberedHost {
		major, ok := digitsBehind(strings.TrimSuffix(last, unstable), ".v")
		return major, ok && isNumber(major)
	}
	major, ok := strings.CutPrefix(last, "v")
	if len(elements) == 1 || !ok || major == "" || !allOf(major, digit|dot) {
		return "", true
	}
	return major, isNumber(major) && !isLow(major)
}
