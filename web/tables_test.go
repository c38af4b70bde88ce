package web_test

import (
	"math"
	"strings"
	"testing"

	"ledger/api"
	"ledger/web"
)

func TestLimits(t *testing.T) { // the constants that the chapter names
	if web.MaxStart != 8000 || web.MaxFields != 64 || web.MaxHead != 16384 || web.MaxBody != 1048576 {
		t.Error("a limit has another number")
	}
}

func TestReasons(t *testing.T) { // P14.9
	for status := -1000; status < 2000; status++ {
		if got, want := web.Reason(status), trueReason(status); got != want {
			t.Errorf("Reason(%d) = %q, want %q", status, got, want)
		}
	}
	for status, want := range map[int]string{299: "Status 299", -1: "Status -1", math.MinInt: "Status -9223372036854775808", math.MaxInt: "Status 9223372036854775807"} {
		if got := web.Reason(status); got != want {
			t.Errorf("Reason(%d) = %q", status, got)
		}
	}
}

func TestStatusesOfErrors(t *testing.T) { // P14.12
	known := map[api.Errno]int{
		api.OK: 200, api.ErrShort: 400, api.ErrStart: 400, api.ErrField: 400, api.ErrHost: 400, api.ErrChunk: 400,
		api.ErrLength: 413, api.ErrTarget: 414, api.ErrLong: 431, api.ErrMethod: 501, api.ErrProtocol: 505,
	}
	for e := api.Errno(-300); e < 1000; e++ {
		want, ok := known[e]
		if !ok {
			want = 500
		}
		if got := web.StatusOf(e); got != want {
			t.Errorf("StatusOf(%d) = %d, want %d", int(e), got, want)
		}
	}
	for _, e := range []api.Errno{math.MinInt, math.MaxInt} {
		if got := web.StatusOf(e); got != 500 {
			t.Errorf("StatusOf(%d) = %d", int(e), got)
		}
	}
}

func TestValues(t *testing.T) { // P14.8
	fields := []web.Field{{Name: "Ab", Value: " 1 "}, {Name: "aB", Value: "2"}, {Name: "c", Value: ""}, {Name: "C", Value: "3"}, {Name: "k[", Value: "4"}, {Name: "\xe9", Value: "5"}, {Name: "s", Value: "6"}}
	for name, want := range map[string]string{"ab": " 1 ", "AB": " 1 ", "Ab": " 1 ", "aB": " 1 ", "C": "", "c": "", "K[": "4", "\xe9": "5", "S": "6"} {
		if value, ok := web.Value(fields, name); value != want || !ok {
			t.Errorf("Value of %q: %q, %v", name, value, ok)
		}
	}
	for _, name := range []string{"", "a", "abc", "d", "K{", "k{", "\xc9", "\u212a[", "\u017f", "A b", "Ab "} {
		if value, ok := web.Value(fields, name); value != "" || ok {
			t.Errorf("Value of %q: %q, %v", name, value, ok)
		}
	}
	if value, ok := web.Value(append(fields, web.Field{Value: "7"}), ""); value != "7" || !ok {
		t.Errorf("Value of no name: %q, %v", value, ok)
	}
	for _, none := range [][]web.Field{nil, {}} {
		if value, ok := web.Value(none, "a"); value != "" || ok {
			t.Errorf("Value of no fields: %q, %v", value, ok)
		}
	}
}

func TestEachByteOfNames(t *testing.T) { // P14.8: letters alone have a case
	for c := range 256 {
		for d := range 256 {
			a, b := string([]byte{'x', byte(c)}), string([]byte{'X', byte(d)})
			same := c == d || c < 0x80 && d < 0x80 && strings.ToLower(a) == strings.ToLower(b)
			if _, ok := web.Value([]web.Field{{Name: a}}, b); ok != same {
				t.Errorf("%q and %q are one name: %v", a, b, ok)
			}
		}
	}
}
