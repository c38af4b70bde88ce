package web_test

import (
	"strings"
	"testing"

	"ledger/api"
	"ledger/web"
)

func pathAsTold(t *testing.T, target string) {
	t.Helper()
	wantPath, wantQuery, want := truePath(target)
	if path, query, e := web.Path(target); path != wantPath || query != wantQuery || e != want {
		t.Errorf("Path(%.100q) = %.100q, %.100q, %d, want %.100q, %.100q, %d", target, path, query, int(e), wantPath, wantQuery, int(want))
	}
}

func escapeAsTold(t *testing.T, path string) {
	t.Helper()
	want, wantError := trueEscape(path)
	target, e := web.Escape(path)
	if target != want || e != wantError {
		t.Errorf("Escape(%.100q) = %.100q, %d, want %.100q, %d", path, target, int(e), want, int(wantError))
	}
	if back, query, f := web.Path(target); e == api.OK && (back != path || query != "" || f != api.OK) {
		t.Errorf("Path(Escape(%.100q)) = %.100q, %q, %d", path, back, query, int(f))
	}
}

func TestEachByteOfTargets(t *testing.T) { // P14.10, P14.11
	for c := range 256 {
		piece := string([]byte{byte(c)})
		for _, form := range []string{"?", "?/", "/?", "/a?b", "/%?0", "/%4?", "/%2?", "/%7?", "/%?f", "/%?", "/%4?a", "/%"} {
			target := strings.Replace(form, "?", piece, 1)
			pathAsTold(t, target)
			escapeAsTold(t, target)
		}
		pathAsTold(t, "/?"+piece)
		pathAsTold(t, "/?a"+piece+"b")
		pathAsTold(t, "/a?%"+piece)
		for d := range 256 {
			pathAsTold(t, "/%"+piece+string([]byte{byte(d)}))
		}
	}
}

func TestSmallTargets(t *testing.T) { // P14.10, P14.11, P0.1
	for _, target := range eachOf(5, "/", "?", "%", "4", "%2f", "%3F", "a", " ", "\xff") {
		pathAsTold(t, target)
		escapeAsTold(t, target)
	}
}

func TestTriples(t *testing.T) { // P14.10: each byte by its digits of either case
	const low, high = "0123456789abcdef", "0123456789ABCDEF"
	for c := range 256 {
		want, e := "/x"+string([]byte{byte(c)})+"y", api.OK
		if c < 0x20 || c == 0x7f || c == '/' {
			want, e = "", api.ErrTarget
		}
		for _, first := range []string{low, high} {
			for _, second := range []string{low, high} {
				target := "/x%" + string(first[c>>4]) + string(second[c&15]) + "y"
				if path, query, f := web.Path(target); path != want || query != "" || f != e {
					t.Errorf("Path(%q) = %q, %q, %d", target, path, query, int(f))
				}
			}
		}
	}
	for target, want := range map[string]string{"/%2541": "/%41", "/%25%34%31": "/%41", "/..%2e/./%2E": "/..././."} {
		if path, _, e := web.Path(target); path != want || e != api.OK {
			t.Errorf("Path(%q) = %q, %d: a triple is read once, and dots stay", target, path, int(e))
		}
	}
}

func TestLongTargets(t *testing.T) { // P14.10, P14.11: no bound of their own
	long := "/" + strings.Repeat("%e9b", 100000)
	if path, query, e := web.Path(long + "?" + long); len(path) != 200001 || query != long || e != api.OK {
		t.Errorf("Path of a long target: %d, %d, %d", len(path), len(query), int(e))
	}
	if target, e := web.Escape("/" + strings.Repeat("\xe9", 100000)); len(target) != 300001 || e != api.OK {
		t.Errorf("Escape of a long path: %d, %d", len(target), int(e))
	}
}
