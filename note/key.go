package note

import (
	"strings"
	"unicode"

	"ledger/api"
	"ledger/sha"
	"ledger/text"
)

const (
	plus = "+"
	// signerMark: what a signer's text begins with. KEY is no hash, so a signer's text is no verifier's.
	signerMark = "PRIVATE+KEY+"
	maxKeyText = 1024
	// hashSize: the bytes of a key's hash.
	hashSize = 4
)

// Verifier: a key by which signatures are checked.
type Verifier struct {
	Name string
	Hash uint32
	Alg  int
	Key  []byte
}

// Signer: a key by which signatures are made.
type Signer struct {
	Name string
	Hash uint32
	Alg  int
	Seed [32]byte
}

// identity: what a signature says of the key that made it.
type identity struct {
	name string
	hash uint32
}

// key: what the text of a key tells: bytes are a verifier's key or a signer's seed.
type key struct {
	id        identity
	alg       int
	algorithm algorithm
	bytes     [keySize]byte
}

// CheckName: ErrName, if it is empty, above MaxName bytes, not valid UTF-8, or holds a blank of any kind (as unicode.IsSpace has it), a plus sign or a control character (below 0x20, 0x7f).
func CheckName(name string) api.Errno {
	if name == "" || len(name) > api.MaxName || text.Plain(name) != api.OK || strings.Contains(name, plus) || strings.ContainsFunc(name, unicode.IsSpace) {
		return api.ErrName
	}
	return api.OK
}

// KeyHash: the first four bytes, high byte first, of the SHA-256 of the name, a line's end, the algorithm's byte and the key. ErrName; ErrAlg, if the algorithm is neither 1 nor 2 or the key has not 32 bytes.
func KeyHash(name string, alg int, key []byte) (uint32, api.Errno) {
	if e := CheckName(name); e != api.OK {
		return 0, e
	}
	if _, ok := algorithmOf(alg); !ok || len(key) != keySize {
		return 0, api.ErrAlg
	}
	return keyHash(name, alg, [keySize]byte(key)), api.OK
}

func keyHash(name string, alg int, key [keySize]byte) uint32 {
	sum := sha.Sum256(append([]byte(name+lineEnd), withAlg(alg, key)...))
	return hashNumber([hashSize]byte(sum[:]))
}

// withAlg: the algorithm's byte and a key's or a seed's behind it.
func withAlg(alg int, b [keySize]byte) []byte {
	return append([]byte{byte(alg)}, b[:]...)
}

func hashNumber(b [hashSize]byte) uint32 {
	return uint32(b[0])<<24 | uint32(b[1])<<16 | uint32(b[2])<<8 | uint32(b[3])
}

func hashBytes(hash uint32) []byte {
	return []byte{byte(hash >> 24), byte(hash >> 16), byte(hash >> 8), byte(hash)}
}

// Generate: the texts of the two keys of a seed. ErrName, ErrAlg.
func Generate(name string, alg int, seed [32]byte) (signer, verifier string, e api.Errno) {
	if e := CheckName(name); e != api.OK {
		return "", "", e
	}
	a, ok := algorithmOf(alg)
	if !ok {
		return "", "", api.ErrAlg
	}
	key := a.makeKey(seed)
	id := identity{name, keyHash(name, alg, key)}
	return signerMark + keyText(id, alg, seed), keyText(id, alg, key), api.OK
}

// keyText: a verifier's text with the key's bytes; with the seed's what stands in a signer's text behind its mark.
func keyText(id identity, alg int, b [keySize]byte) string {
	return id.name + plus + text.EncodeHex(hashBytes(id.hash)) + plus + text.EncodeBase64(withAlg(alg, b))
}

// ParseVerifier: name, plus, eight hex digits, plus, base64 of the algorithm's byte and the key. ErrKeyText (form), ErrName, ErrAlg, ErrKeyHash, in this order.
func ParseVerifier(s string) (Verifier, api.Errno) {
	k, e := readVerifier(s)
	if e != api.OK {
		return Verifier{}, e
	}
	return Verifier{Name: k.id.name, Hash: k.id.hash, Alg: k.alg, Key: k.bytes[:]}, api.OK
}

// ParseSigner: PRIVATE+KEY+ and then as for a verifier, with the seed in the place of the key (the hash is that of the verifier's key).
func ParseSigner(s string) (Signer, api.Errno) {
	k, e := readSigner(s)
	if e != api.OK {
		return Signer{}, e
	}
	return Signer{Name: k.id.name, Hash: k.id.hash, Alg: k.alg, Seed: k.bytes}, api.OK
}

func readVerifier(s string) (key, api.Errno) {
	k, e := readKey(s)
	if e != api.OK {
		return key{}, e
	}
	if keyHash(k.id.name, k.alg, k.bytes) != k.id.hash {
		return key{}, api.ErrKeyHash
	}
	return k, api.OK
}

func readSigner(s string) (key, api.Errno) {
	rest, ok := strings.CutPrefix(s, signerMark)
	if !ok || len(s) > maxKeyText {
		return key{}, api.ErrKeyText
	}
	k, e := readKey(rest)
	if e != api.OK {
		return key{}, e
	}
	if keyHash(k.id.name, k.alg, k.algorithm.makeKey(k.bytes)) != k.id.hash {
		return key{}, api.ErrKeyHash
	}
	return k, api.OK
}

// readKey: what a key's text tells, its hash not yet held against the key.
func readKey(s string) (key, api.Errno) {
	name, hash, b, ok := cutKeyText(s)
	if !ok {
		return key{}, api.ErrKeyText
	}
	if e := CheckName(name); e != api.OK {
		return key{}, e
	}
	alg := int(b[0])
	a, ok := algorithmOf(alg)
	if !ok || len(b) != 1+keySize {
		return key{}, api.ErrAlg
	}
	return key{id: identity{name, hash}, alg: alg, algorithm: a, bytes: [keySize]byte(b[1:])}, api.OK
}

// cutKeyText: the three parts of a key's text; false, if it has not the form of one, or nothing is decoded.
func cutKeyText(s string) (name string, hash uint32, b []byte, ok bool) {
	if len(s) > maxKeyText {
		return "", 0, nil, false
	}
	name, rest, _ := strings.Cut(s, plus)
	digits, coded, _ := strings.Cut(rest, plus) // where a plus is missing nothing is left to be decoded
	h, hexError := text.DecodeHex(digits)
	b, codeError := text.DecodeBase64(coded)
	if hexError != api.OK || len(h) != hashSize || codeError != api.OK || len(b) == 0 {
		return "", 0, nil, false
	}
	return name, hashNumber([hashSize]byte(h)), b, true
}

// readKeys: the keys of the texts, in their order and by their identities: the first error of a text, ErrTwice.
func readKeys(texts []string, read func(string) (key, api.Errno)) ([]key, map[identity]key, api.Errno) {
	var keys []key
	known := map[identity]key{}
	for _, s := range texts {
		k, e := read(s)
		if e != api.OK {
			return nil, nil, e
		}
		keys = append(keys, k)
		known[k.id] = k
	}
	if len(known) < len(keys) {
		return nil, nil, api.ErrTwice
	}
	return keys, known, api.OK
}

// FormatVerifier: the one text that ParseVerifier takes for it; the errors are ParseVerifier's.
func FormatVerifier(v Verifier) (string, api.Errno) {
	hash, e := KeyHash(v.Name, v.Alg, v.Key)
	if e != api.OK {
		return "", e
	}
	if hash != v.Hash {
		return "", api.ErrKeyHash
	}
	return keyText(identity{v.Name, v.Hash}, v.Alg, [keySize]byte(v.Key)), api.OK
}
