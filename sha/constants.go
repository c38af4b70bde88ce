package sha

import (
	"math/big"

	"ledger/api"
)

// primes: the first eighty, one for each round of kind 512; kind 256 goes by the first sixty-four.
var primes = [80]int64{
	2, 3, 5, 7, 11, 13, 17, 19, 23, 29,
	31, 37, 41, 43, 47, 53, 59, 61, 67, 71,
	73, 79, 83, 89, 97, 101, 103, 107, 109, 113,
	127, 131, 137, 139, 149, 151, 157, 163, 167, 173,
	179, 181, 191, 193, 197, 199, 211, 223, 227, 229,
	233, 239, 241, 251, 257, 263, 269, 271, 277, 281,
	283, 293, 307, 311, 313, 317, 331, 337, 347, 349,
	353, 359, 367, 373, 379, 383, 389, 397, 401, 409,
}

// constants: the round constants of kind 512. Those of kind 256 are their upper halves, so that no second table is needed.
var constants = [80]uint64{}

func init() {
	for i, p := range primes {
		constants[i] = cubeRootBits(p)
	}
}

// cubeRootBits: the first 64 bits behind the binary point of the cube root of n, a number from 0 to 511.
// They are the low 64 bits of the greatest whole number whose cube is at most n times 2^192, so nothing is rounded on the way.
func cubeRootBits(n int64) uint64 {
	bound := new(big.Int).Lsh(big.NewInt(n), 192)
	three := big.NewInt(3)
	root := new(big.Int)
	for bit := 66; bit >= 0; bit-- { // the root is below 8 times 2^64
		next := new(big.Int).SetBit(root, bit, 1)
		if new(big.Int).Exp(next, three, nil).Cmp(bound) <= 0 {
			root = next
		}
	}
	whole := new(big.Int).Rsh(root, 64)
	behind := new(big.Int).Sub(root, whole.Lsh(whole, 64))
	return behind.Uint64()
}

// Constants: the round constants that the definition yields, high byte first, one behind the other: 64 of four bytes for kind 256, 80 of eight for kind 512. ErrKind.
func Constants(kind int) ([]byte, api.Errno) {
	s, ok := shapeOf(kind)
	if !ok {
		return nil, api.ErrKind
	}
	b := make([]byte, s.rounds*s.size)
	for i := range s.rounds {
		putWord(s.wordAt(b, i), constants[i]>>s.gap())
	}
	return b, api.OK
}
