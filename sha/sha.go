// Package sha (layer 1): SHA-256, SHA-512, in pieces, saved and taken up again; HMAC over SHA-256. See DOC.md, chapter 1.
package sha

import "ledger/api"

// maxCount: the most bytes that a digest takes; with it the number of bits fits in 64.
const maxCount = 1<<61 - 1

// The parts of a saved state: kind, count, chain, rest.
const (
	chainAt  = 9   // behind one byte for the kind and eight for the count
	kindUnit = 256 // the kind's byte is the kind in this unit: 1 or 2
)

// Digest: a sum that is being taken.
type Digest struct {
	kind  int
	count int64
	chain [8]uint64 // behind the whole blocks
	rest  [128]byte // what was written behind the last whole block, zeros behind it
}

// Sum256: the SHA-256 of data.
func Sum256(data []byte) api.Hash {
	full := sumOf(256, data)
	return api.Hash(full[:32])
}

// Sum512: the SHA-512 of data.
func Sum512(data []byte) [64]byte {
	return sumOf(512, data)
}

// Mac: HMAC-SHA-256 of data under the key, which has any length.
func Mac(key, data []byte) api.Hash {
	var padded [64]byte
	if len(key) > len(padded) {
		short := Sum256(key)
		copy(padded[:], short[:])
	} else {
		copy(padded[:], key)
	}
	inner := sumOf(256, masked(padded, 0x36), data)
	full := sumOf(256, masked(padded, 0x5c), inner[:32])
	return api.Hash(full[:32])
}

// masked: new memory, each byte of the key with the mask.
func masked(key [64]byte, mask byte) []byte {
	for i := range key {
		key[i] ^= mask
	}
	return key[:]
}

// New: kind 256 or 512; else ErrKind and nil.
func New(kind int) (*Digest, api.Errno) {
	s, ok := shapeOf(kind)
	if !ok {
		return nil, api.ErrKind
	}
	d := fresh(s)
	return &d, api.OK
}

func fresh(s shape) Digest {
	return Digest{kind: s.kind, chain: s.start()}
}

// shape: of a digest that New or Load made there always is one.
func (d *Digest) shape() shape {
	s, _ := shapeOf(d.kind)
	return s
}

// Write: the bytes go on behind those that were written; all of them are left out if the count would be above maxCount.
func (d *Digest) Write(p []byte) {
	if int64(len(p)) > maxCount-d.count {
		return
	}
	s := d.shape()
	held := d.held(s)
	d.count += int64(len(p))
	if held > 0 {
		n := copy(d.rest[held:s.block()], p)
		if held+n < s.block() {
			return
		}
		d.chain = s.absorb(d.chain, d.rest[:s.block()])
		d.rest = [128]byte{}
		p = p[n:]
	}
	whole := len(p) - len(p)%s.block()
	d.chain = s.absorb(d.chain, p[:whole])
	copy(d.rest[:], p[whole:])
}

// held: how many bytes wait for their block to become whole.
func (d *Digest) held(s shape) int {
	return int(d.count % int64(s.block()))
}

// Sum: of all that was written: 32 or 64 bytes, new memory; the digest goes on as if it had not been asked.
func (d *Digest) Sum() []byte {
	full := finish(*d)
	return full[:d.shape().sum()]
}

// sumOf: the sum of the pieces, one behind the other, with zeros behind a short one.
func sumOf(kind int, pieces ...[]byte) [64]byte {
	s, _ := shapeOf(kind)
	d := fresh(s)
	for _, p := range pieces {
		d.Write(p)
	}
	return finish(d)
}

// finish: the sum, with zeros behind a short one. The digest is a copy, which may be spent.
func finish(d Digest) [64]byte {
	s := d.shape()
	var tail [256]byte
	held := copy(tail[:], d.rest[:d.held(s)])
	tail[held] = 0x80
	end := s.block()
	if held+1+2*s.size > end { // no room for the length, which takes two words
		end += s.block()
	}
	putWord(tail[end-8:end], uint64(d.count)*8)
	var full [64]byte
	for i, w := range s.absorb(d.chain, tail[:end]) {
		putWord(s.wordAt(full[:], i), w)
	}
	return full
}

// Reset: as if nothing had been written.
func (d *Digest) Reset() {
	*d = fresh(d.shape())
}

// Written: how many bytes.
func (d *Digest) Written() int64 {
	return d.count
}

// Save: the state as text of bytes: kind, count, chain, the bytes that fill no block yet; one state has one text.
func (d *Digest) Save() []byte {
	s := d.shape()
	restAt, held := chainAt+s.sum(), d.held(s)
	b := make([]byte, restAt+held)
	b[0] = byte(d.kind / kindUnit)
	putWord(b[1:chainAt], uint64(d.count))
	for i, w := range d.chain {
		putWord(s.wordAt(b[chainAt:restAt], i), w)
	}
	copy(b[restAt:], d.rest[:held])
	return b
}

// Load: the digest that was saved; ErrSaved and nil for every state that has not the form that Save gives. Behind a whole block any chain is taken: whether a message leads to it can't be told.
func Load(state []byte) (*Digest, api.Errno) {
	if len(state) < chainAt {
		return nil, api.ErrSaved
	}
	s, ok := shapeOf(int(state[0]) * kindUnit)
	count := readWord(state[1:chainAt])
	if !ok || count > maxCount {
		return nil, api.ErrSaved
	}
	d := Digest{kind: s.kind, count: int64(count)}
	restAt := chainAt + s.sum()
	if len(state) != restAt+d.held(s) {
		return nil, api.ErrSaved
	}
	for i := range d.chain {
		d.chain[i] = readWord(s.wordAt(state[chainAt:restAt], i))
	}
	if count < uint64(s.block()) && d.chain != s.start() {
		return nil, api.ErrSaved
	}
	copy(d.rest[:], state[restAt:])
	return &d, api.OK
}
