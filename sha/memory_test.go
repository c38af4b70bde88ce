package sha_test

import (
	"bytes"
	"testing"

	"ledger/api"
	"ledger/sha"
)

// spared: a copy of data with spare room behind it, and a look whether either was changed.
func spared(t *testing.T, what string, data []byte) ([]byte, func()) {
	room := append(bytes.Clone(data), bytes.Repeat([]byte{0xee}, 300)...)
	before := bytes.Clone(room)
	return room[:len(data)], func() {
		t.Helper()
		if !bytes.Equal(room, before) {
			t.Errorf("%s: what was handed in is changed", what)
		}
	}
}

// spoil: writes over an answer and its spare room.
func spoil(b []byte) {
	b = b[:cap(b)]
	for i := range b {
		b[i] ^= 0xff
	}
}

func TestArgumentsStayAsTheyAre(t *testing.T) { // P0.2
	for _, n := range []int{0, 1, 32, 63, 64, 65, 111, 128, 200} {
		data, dataStays := spared(t, "data", message(n))
		key, keyStays := spared(t, "key", message(n))
		sha.Sum256(data)
		sha.Sum512(data)
		sha.Mac(key, data)
		for _, kind := range kinds {
			d := fresh(t, kind)
			d.Write(data)
			d.Sum()
			state, stateStays := spared(t, "state", d.Save())
			g := load(t, state)
			g.Write(data)
			g.Sum()
			g.Save()
			g.Reset()
			stateStays()
		}
		dataStays()
		keyStays()
	}
}

func TestArgumentsAreNotKept(t *testing.T) { // P0.2
	for _, kind := range kinds {
		for _, n := range []int{1, 63, 64, 100, 128, 150} {
			data := message(n)
			d := fresh(t, kind)
			d.Write(data)
			spoil(data)
			if !bytes.Equal(d.Sum(), trueSum(kind, message(n))) {
				t.Errorf("kind %d: the digest of %d bytes keeps what was written", kind, n)
			}
			state := d.Save()
			g := load(t, state)
			spoil(state)
			if !bytes.Equal(g.Save(), d.Save()) || !bytes.Equal(g.Sum(), trueSum(kind, message(n))) {
				t.Errorf("kind %d: the digest of %d bytes keeps what was loaded", kind, n)
			}
		}
	}
}

func TestAnswersAreNewMemory(t *testing.T) { // P0.2
	for _, kind := range kinds {
		d := fresh(t, kind)
		d.Write(message(150))
		answers := map[string]func() []byte{
			"Sum":  d.Sum,
			"Save": d.Save,
			"Constants": func() []byte {
				b, _ := sha.Constants(kind)
				return b
			},
		}
		for name, answer := range answers {
			first, kept := answer(), answer()
			want := bytes.Clone(first)
			spoil(first)
			if !bytes.Equal(kept, want) || !bytes.Equal(answer(), want) {
				t.Errorf("kind %d: %s shares memory with what it answers elsewhere", kind, name)
			}
		}
		if !bytes.Equal(d.Sum(), trueSum(kind, message(150))) || !bytes.Equal(sumOf(kind, message(150)), d.Sum()) {
			t.Errorf("kind %d: an answer that is written over changes a sum", kind)
		}
	}
}

func TestSameCallsSameAnswers(t *testing.T) { // P0.2
	for _, n := range []int{0, 5, 64, 130} {
		data := message(n)
		h256, h512, mac := sha.Sum256(data), sha.Sum512(data), sha.Mac(data, data)
		d := fresh(t, 512)
		d.Write(message(77))
		if _, e := sha.Load(data); e != api.ErrSaved {
			t.Fatalf("Load of %d bytes: %d", n, e)
		}
		sha.New(384)
		sha.Constants(0)
		if sha.Sum256(data) != h256 || sha.Sum512(data) != h512 || sha.Mac(data, data) != mac {
			t.Errorf("%d bytes: another answer the second time", n)
		}
	}
}
