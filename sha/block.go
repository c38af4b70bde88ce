package sha

import "math/bits"

// word: what a kind reckons with; its own width makes additions wrap round as they must.
type word interface{ uint32 | uint64 }

// mix: by how many places a word is turned or shifted for one of the four functions of a kind.
type mix struct{ first, second, third int }

// shape: what sets one kind apart from the other.
type shape struct {
	kind   int
	size   int // bytes of a word
	rounds int
	upperA mix
	upperE mix
	lowerS mix // its third is a shift
	upperS mix // its third is a shift
}

// shapes: the two kinds.
var shapes = [2]shape{
	{256, 4, 64, mix{2, 13, 22}, mix{6, 11, 25}, mix{7, 18, 3}, mix{17, 19, 10}},
	{512, 8, 80, mix{28, 34, 39}, mix{14, 18, 41}, mix{1, 8, 7}, mix{19, 61, 6}},
}

// starts: the starting words of kind 512; those of kind 256 are their upper halves.
var starts = [8]uint64{
	0x6a09e667f3bcc908, 0xbb67ae8584caa73b, 0x3c6ef372fe94f82b, 0xa54ff53a5f1d36f1,
	0x510e527fade682d1, 0x9b05688c2b3e6c1f, 0x1f83d9abfb41bd6b, 0x5be0cd19137e2179,
}

func shapeOf(kind int) (shape, bool) {
	for _, s := range shapes {
		if s.kind == kind {
			return s, true
		}
	}
	return shape{}, false
}

// block: bytes of a block.
func (s shape) block() int { return 16 * s.size }

// sum: bytes of a sum, and of a chain.
func (s shape) sum() int { return 8 * s.size }

// gap: how many bits of a uint64 a word of this kind leaves free.
func (s shape) gap() int { return 64 - 8*s.size }

// start: the chain ahead of the first block.
func (s shape) start() [8]uint64 {
	var chain [8]uint64
	for i, w := range starts {
		chain[i] = w >> s.gap()
	}
	return chain
}

// absorb: the chain behind these whole blocks.
func (s shape) absorb(chain [8]uint64, blocks []byte) [8]uint64 {
	for len(blocks) > 0 {
		block := blocks[:s.block()]
		if s.kind == 256 {
			chain = compress[uint32](s, chain, block)
		} else {
			chain = compress[uint64](s, chain, block)
		}
		blocks = blocks[s.block():]
	}
	return chain
}

// compress: the chain behind one block. A chain has words of 64 bits for both kinds, so that a digest of either kind has one; W is the width in which they are reckoned.
func compress[W word](s shape, chain [8]uint64, block []byte) [8]uint64 {
	w := schedule[W](s, block)
	gap := s.gap()
	a, b, c, d := W(chain[0]), W(chain[1]), W(chain[2]), W(chain[3])
	e, f, g, h := W(chain[4]), W(chain[5]), W(chain[6]), W(chain[7])
	for i := range s.rounds {
		one := h + turned(e, gap, s.upperE) + ((e & f) ^ (^e & g)) + W(constants[i]>>gap) + w[i]
		two := turned(a, gap, s.upperA) + ((a & b) ^ (a & c) ^ (b & c))
		h, g, f, e = g, f, e, d+one
		d, c, b, a = c, b, a, one+two
	}
	for i, x := range [8]W{a, b, c, d, e, f, g, h} {
		chain[i] = uint64(W(chain[i]) + x)
	}
	return chain
}

// schedule: a word for each round; those beyond a kind's rounds stay 0.
func schedule[W word](s shape, block []byte) [80]W {
	var w [80]W
	gap := s.gap()
	for i := range 16 {
		w[i] = W(readWord(s.wordAt(block, i)))
	}
	for i := 16; i < s.rounds; i++ {
		w[i] = w[i-16] + shifted(w[i-15], gap, s.lowerS) + w[i-7] + shifted(w[i-2], gap, s.upperS)
	}
	return w
}

// doubled: a word of 32 bits in both halves of 64, one of 64 bits as it is: so turning in 64 bits turns either in its own width.
func doubled[W word](x W, gap int) uint64 {
	return uint64(x) | uint64(x)<<gap
}

// turned: x turned by each of the three.
func turned[W word](x W, gap int, m mix) W {
	y := doubled(x, gap)
	return W(bits.RotateLeft64(y, -m.first) ^ bits.RotateLeft64(y, -m.second) ^ bits.RotateLeft64(y, -m.third))
}

// shifted: x turned by the first two and shifted by the third.
func shifted[W word](x W, gap int, m mix) W {
	y := doubled(x, gap)
	return W(bits.RotateLeft64(y, -m.first)^bits.RotateLeft64(y, -m.second)) ^ x>>m.third
}

// wordAt: of bytes that are laid out as words, those of the i-th.
func (s shape) wordAt(b []byte, i int) []byte { return b[i*s.size : (i+1)*s.size] }

// readWord: the number that these bytes are, high byte first.
func readWord(b []byte) uint64 {
	var x uint64
	for _, c := range b {
		x = x<<8 | uint64(c)
	}
	return x
}

// putWord: lays the low bits of x out in all of b, high byte first.
func putWord(b []byte, x uint64) {
	for i := len(b) - 1; i >= 0; i-- {
		b[i] = byte(x)
		x >>= 8
	}
}
