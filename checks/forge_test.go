package checks

import (
	"crypto/sha256"
	"math/big"

	"lintel/api"
)

// encoded is the encoded message of a digest, written apart from the program.
func encoded(digest [32]byte, n int) []byte {
	b := make([]byte, n)
	for i := range b {
		b[i] = 0xff
	}
	b[0], b[1], b[n-52] = 0, 1, 0
	copy(b[n-51:], unhex("3031300d060960864801650304020105000420"))
	copy(b[n-32:], digest[:])
	return b
}

// madeKey is a key of 256 bytes and the exponent 3, and a signature that is right under it for a digest: the number s is chosen, and the modulus is its cube less the message. The higher the salt, the higher s.
func madeKey(digest [32]byte, salt int64) (api.Key, []byte) {
	s := new(big.Int).Lsh(big.NewInt(3), 681)
	s.Add(s, big.NewInt(2*salt))
	if digest[31]%2 == 0 {
		s.Add(s, big.NewInt(1))
	}
	n := new(big.Int).Exp(s, big.NewInt(3), nil)
	n.Sub(n, new(big.Int).SetBytes(encoded(digest, 256)))
	return api.Key{N: n.Bytes(), E: 3}, s.FillBytes(make([]byte, 256))
}

// pair is a key that signs any number of texts.
type pair struct {
	key api.Key
	d   *big.Int
}

// newPair is a pair of the primes p and q, which stand as digits to the base 16.
func newPair(p, q string, e int64) pair {
	a, _ := new(big.Int).SetString(p, 16)
	b, _ := new(big.Int).SetString(q, 16)
	one := big.NewInt(1)
	phi := new(big.Int).Mul(new(big.Int).Sub(a, one), new(big.Int).Sub(b, one))
	d := new(big.Int).ModInverse(big.NewInt(e), phi)
	return pair{api.Key{N: new(big.Int).Mul(a, b).Bytes(), E: uint64(e)}, d}
}

// sign is the signature of the text, by the digest of it.
func (p pair) sign(text []byte) []byte {
	return p.signDigest(sha256.Sum256(text))
}

func (p pair) signDigest(digest [32]byte) []byte {
	m := new(big.Int).SetBytes(encoded(digest, len(p.key.N)))
	m.Exp(m, p.d, new(big.Int).SetBytes(p.key.N))
	return m.FillBytes(make([]byte, len(p.key.N)))
}
