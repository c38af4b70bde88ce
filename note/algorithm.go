package note

import (
	"bytes"

	"ledger/api"
	"ledger/sha"
	"ledger/sign"
)

const (
	AlgEd25519 = 1 // a key of 32 bytes, signatures of 64
	AlgDrill   = 2 // for drills: a key of 32 bytes, signatures of 32; whoever knows the key can sign
)

// keySize: the bytes of a key, and of a seed, whatever the algorithm.
const keySize = 32

// algorithm: what can be done with keys of one kind.
type algorithm struct {
	makeKey  func(seed [keySize]byte) [keySize]byte
	sign     func(seed [keySize]byte, message []byte) []byte
	verifies func(key [keySize]byte, message, signature []byte) bool
}

// numbers: of all algorithms.
var numbers = [...]int{AlgEd25519, AlgDrill}

// algorithmOf: the one of that number; false, if there is none.
func algorithmOf(number int) (algorithm, bool) {
	rows := [len(numbers)]algorithm{ // in the order of the numbers
		{makeKey: sign.Public, sign: edSign, verifies: edVerifies},
		{makeKey: drillKey, sign: drillSign, verifies: drillVerifies},
	}
	for i := range numbers {
		if numbers[i] == number {
			return rows[i], true
		}
	}
	return algorithm{}, false
}

func edSign(seed [keySize]byte, message []byte) []byte {
	signature := sign.Sign(seed, message)
	return signature[:]
}

func edVerifies(key [keySize]byte, message, signature []byte) bool {
	const size = 64
	return len(signature) == size && sign.Verify(key, message, [size]byte(signature)) == api.OK
}

func drillKey(seed [keySize]byte) [keySize]byte { return sha.Sum256(seed[:]) }

func drillSign(seed [keySize]byte, message []byte) []byte {
	return drillMac(drillKey(seed), message)
}

func drillVerifies(key [keySize]byte, message, signature []byte) bool {
	return bytes.Equal(signature, drillMac(key, message))
}

func drillMac(key [keySize]byte, message []byte) []byte {
	mac := sha.Mac(key[:], message)
	return mac[:]
}
