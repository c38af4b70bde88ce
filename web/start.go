package web

import (
	"strings"

	"ledger/text"
)

const (
	protocol    = "HTTP/"
	leastStatus = 100
	mostStatus  = 599
)

// methods: those that are known.
var methods = [...]string{"GET", "HEAD", "POST", "PUT", "DELETE", "CONNECT", "OPTIONS", "TRACE", "PATCH"}

func isKnownMethod(s string) bool {
	for _, method := range methods {
		if s == method {
			return true
		}
	}
	return false
}

// isVersion: by its form alone.
func isVersion(s string) bool {
	digits, ok := strings.CutPrefix(s, protocol)
	return ok && len(digits) == 3 && isDigit(digits[0]) && digits[1] == '.' && isDigit(digits[2])
}

// minorOf: of what is a version by its form.
func minorOf(version string) (int, error) {
	switch version {
	case versionText(0):
		return 0, nil
	case versionText(1):
		return 1, nil
	}
	return 0, errProtocol
}

func versionText(minor int) string {
	return protocol + "1." + text.FormatNumber(int64(minor))
}

func isMinor(minor int) bool { return minor == 0 || minor == 1 }

// readRequestLine: the method, the target and Minor.
func readRequestLine(line string) (Request, error) {
	method, rest, _ := strings.Cut(line, " ") // without a blank the target is empty, and so refused
	target, version, _ := strings.Cut(rest, " ")
	if !isToken(method) || !isTarget(target) || !isVersion(version) {
		return Request{}, errStart
	}
	if !isKnownMethod(method) {
		return Request{}, errMethod
	}
	minor, err := minorOf(version)
	if err != nil {
		return Request{}, err
	}
	return Request{Method: method, Target: target, Minor: minor}, nil
}

// readStatusLine: the status and Minor.
func readStatusLine(line string) (Response, error) {
	version, rest, _ := strings.Cut(line, " ") // without a blank the status is empty, and so refused
	digits, reason, _ := strings.Cut(rest, " ")
	status, ok := readStatus(digits)
	if !ok || !isVersion(version) || !mayBeValue(reason) {
		return Response{}, errStart
	}
	minor, err := minorOf(version)
	if err != nil {
		return Response{}, err
	}
	if !isStatus(status) {
		return Response{}, errStatus
	}
	return Response{Status: status, Minor: minor}, nil
}

// readStatus: of three digits; zeros may stand ahead.
func readStatus(digits string) (int, bool) {
	if len(digits) != 3 {
		return 0, false
	}
	status := 0
	for i := range len(digits) {
		if !isDigit(digits[i]) {
			return 0, false
		}
		status = 10*status + int(digits[i]-'0')
	}
	return status, true
}

func isStatus(status int) bool { return status >= leastStatus && status <= mostStatus }

// isBodiless: has a response of this status no body, whatever its fields say?
func isBodiless(status int) bool {
	return status >= 100 && status <= 199 || status == 204 || status == 304
}
