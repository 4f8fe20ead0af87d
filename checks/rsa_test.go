package checks

import (
	"bytes"
	"crypto"
	stdrsa "crypto/rsa"
	"math"
	"math/big"
	"testing"

	"lintel/api"
	"lintel/rsa"
)

// modulus is n bytes with the first and the last one as told, and 01 between.
func modulus(n int, first, last byte) []byte {
	b := bytes.Repeat([]byte{1}, n)
	if n > 0 {
		b[0], b[n-1] = first, last
	}
	return b
}

func TestRsaSound(t *testing.T) {
	for _, n := range []int{256, 384, 512} {
		for _, e := range []uint64{3, 5, 65537, 1<<32 + 1, 1<<33 - 1} {
			if got := rsa.Sound(api.Key{N: modulus(n, 0x80, 1), E: e}); got != 0 {
				t.Errorf("P6.1: Sound of %d bytes, E %d: %d", n, e, got)
			}
		}
		for _, e := range []uint64{0, 1, 2, 4, 65536, 1 << 33, 1<<33 + 1, math.MaxUint64} {
			if got := rsa.Sound(api.Key{N: modulus(n, 0x80, 1), E: e}); got != api.ErrKey {
				t.Errorf("P6.1: Sound of %d bytes, E %d: %d", n, e, got)
			}
		}
		for _, k := range []api.Key{{N: modulus(n, 0x7f, 1), E: 3}, {N: modulus(n, 0x80, 2), E: 3}, {N: modulus(n, 0, 1), E: 3}} {
			if got := rsa.Sound(k); got != api.ErrKey {
				t.Errorf("P6.1: Sound of a modulus %x .. %x: %d", k.N[0], k.N[n-1], got)
			}
		}
	}
	for _, n := range []int{0, 1, 128, 255, 257, 320, 383, 385, 511, 513, 1024} {
		if got := rsa.Sound(api.Key{N: modulus(n, 0x81, 0x81), E: 3}); got != api.ErrKey {
			t.Errorf("P6.1: Sound of %d bytes: %d", n, got)
		}
	}
}

func TestRsaEncode(t *testing.T) {
	digest := [32]byte(bytes.Repeat([]byte{7}, 32))
	want := unhex("0001 ffffffffffffffff 00 3031300d060960864801650304020105000420" + "0707070707070707070707070707070707070707070707070707070707070707")
	got, e := rsa.Encode(digest, 62)
	equal(t, "P6.1: Encode in 62 bytes", got, want)
	if e != 0 {
		t.Errorf("P6.1: Encode in 62 bytes: %d", e)
	}
	for _, n := range []int{63, 256, 384, 512} {
		got, e := rsa.Encode(digest, n)
		equal(t, "P6.1: Encode", got, encoded(digest, n))
		if e != 0 {
			t.Errorf("P6.1: Encode in %d bytes: %d", n, e)
		}
	}
	for _, n := range []int{61, 0, -1, math.MinInt, 513, math.MaxInt} {
		if got, e := rsa.Encode(digest, n); len(got) != 0 || e != api.ErrArg {
			t.Errorf("P6.1: Encode in %d bytes: %x, %d", n, got, e)
		}
	}
}

func TestRsaVerify(t *testing.T) {
	r := random(10)
	for _, p := range []pair{pairA, pairB, pairLong, pairLonger} {
		text := someBytes(r, 50)
		digest := [32]byte(someBytes(r, 32))
		sig := p.signDigest(digest)
		if err := stdrsa.VerifyPKCS1v15(&stdrsa.PublicKey{N: new(big.Int).SetBytes(p.key.N), E: int(p.key.E)}, crypto.SHA256, digest[:], sig); err != nil {
			t.Fatal(err)
		}
		if !rsa.Verify(p.key, digest, sig) {
			t.Errorf("P6.2: a right signature of %d bytes is not right", len(sig))
		}
		if rsa.Verify(p.key, [32]byte(text[:32]), sig) || rsa.Verify(pairC.key, digest, sig) {
			t.Errorf("P6.2: a signature is right for another digest or key")
		}
		rsaWrong(t, p, digest, sig)
	}
	if rsa.Verify(api.Key{}, [32]byte{}, nil) {
		t.Errorf("P6.2: nothing is right under no key")
	}
}

// rsaWrong asks for what is almost the signature, or the key.
func rsaWrong(t *testing.T, p pair, digest [32]byte, sig []byte) {
	t.Helper()
	above := new(big.Int).Add(new(big.Int).SetBytes(sig), new(big.Int).SetBytes(p.key.N))
	wrong := map[string][]byte{"a byte 0 more ahead": append([]byte{0}, sig...), "a byte more": append(bytes.Clone(sig), 0), "a byte less": sig[1:], "nothing": nil, "noughts": make([]byte, len(sig)), "the modulus": p.key.N}
	if b := above.Bytes(); len(b) == len(sig) {
		wrong["the modulus more"] = b
	}
	for i := 0; i < len(sig); i += 37 {
		turned := bytes.Clone(sig)
		turned[i] ^= 4
		wrong["a bit turned"] = turned
	}
	for what, s := range wrong {
		if rsa.Verify(p.key, digest, s) {
			t.Errorf("P6.2: %s: right", what)
		}
	}
	for _, k := range []api.Key{{N: append([]byte{0}, p.key.N...), E: p.key.E}, {N: p.key.N, E: p.key.E + 1}, {N: p.key.N, E: 3}, {N: p.key.N[1:], E: p.key.E}} {
		if rsa.Verify(k, digest, sig) {
			t.Errorf("P6.2: right under a key of %d bytes and E %d", len(k.N), k.E)
		}
	}
}

// What is N or more is refused, even where it leaves the same rest and fits into the bytes.
func TestRsaVerifyAbove(t *testing.T) {
	n := new(big.Int).SetBytes(pairA.key.N)
	for i := range byte(200) {
		digest := [32]byte{i}
		sig := pairA.signDigest(digest)
		sum := new(big.Int).Add(new(big.Int).SetBytes(sig), n)
		if sum.BitLen() > 2048 {
			continue
		}
		if !rsa.Verify(pairA.key, digest, sig) || rsa.Verify(pairA.key, digest, sum.FillBytes(make([]byte, 256))) {
			t.Errorf("P6.2: the signature and the modulus together are right")
		}
		return
	}
	t.Fatal("no digest has a signature that leaves room")
}

func TestRsaLongExponent(t *testing.T) {
	digest := [32]byte{9}
	for _, from := range []int64{1<<32 + 1, 1<<33 - 101} {
		e := from
		for newPair(primeA1, primeA2, e).d == nil {
			e += 2
		}
		p := newPair(primeA1, primeA2, e)
		if !rsa.Verify(p.key, digest, p.signDigest(digest)) {
			t.Errorf("P6.2: not right under E %d", e)
		}
	}
}

func TestRsaMadeKeys(t *testing.T) {
	r := random(11)
	for i := range 40 {
		digest := [32]byte(someBytes(r, 32))
		k, sig := madeKey(digest, int64(i))
		if rsa.Sound(k) != 0 || !rsa.Verify(k, digest, sig) {
			t.Fatalf("P6.3: the key that was made for %x does not say so", digest)
		}
		other := digest
		other[r.Intn(32)] ^= 1 << r.Intn(8)
		if rsa.Verify(k, other, sig) {
			t.Fatalf("P6.3: a signature is right for two digests")
		}
	}
}

func TestRsaLeavesWhatItIsHanded(t *testing.T) {
	digest := [32]byte{5}
	k, sig := madeKey(digest, 0)
	n, s := roomy(k.N), roomy(sig)
	rsa.Verify(api.Key{N: n, E: 3}, digest, s)
	rsa.Sound(api.Key{N: n, E: 3})
	untouched(t, "R3: Verify", n, k.N)
	untouched(t, "R3: Verify", s, sig)
}
