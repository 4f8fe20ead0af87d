// Package checks holds the tests of all layers; this file has what several of them share.
package checks

import (
	"bytes"
	"crypto/sha256"
	"encoding/hex"
	"math/rand"
	"strings"
	"testing"
)

// unhex are the bytes of digits to the base 16, with blanks wherever they like.
func unhex(s string) []byte {
	b, err := hex.DecodeString(strings.ReplaceAll(s, " ", ""))
	if err != nil {
		panic(err)
	}
	return b
}

// roomy is a copy of b with room behind its end, which holds a known byte.
func roomy(b []byte) []byte {
	whole := append(append([]byte{}, b...), bytes.Repeat([]byte{0xa7}, 24)...)
	return whole[:len(b)]
}

// untouched fails the test unless b (of roomy) is still want, and the room behind its end is as it was.
func untouched(t *testing.T, what string, b, want []byte) {
	t.Helper()
	if !bytes.Equal(b, want) {
		t.Errorf("%s: what was handed in has changed: %x, was %x", what, b, want)
	}
	room := b[len(b) : len(b)+24]
	if !bytes.Equal(room, bytes.Repeat([]byte{0xa7}, 24)) {
		t.Errorf("%s: the room behind the end has changed: %x", what, room)
	}
}

// equal fails the test unless both are the same bytes (nil and empty are the same).
func equal(t *testing.T, what string, got, want []byte) {
	t.Helper()
	if !bytes.Equal(got, want) {
		t.Errorf("%s: %x, want %x", what, got, want)
	}
}

// random is a source that is the same in every run.
func random(seed int64) *rand.Rand { return rand.New(rand.NewSource(seed)) }

// someBytes are n bytes of a source.
func someBytes(r *rand.Rand, n int) []byte {
	b := make([]byte, n)
	for i := range b {
		b[i] = byte(r.Intn(256))
	}
	return b
}

// spoil turns all bytes of a list, so that a test can see whether somebody else has the same memory.
func spoil(b []byte) {
	b = b[:cap(b)]
	for i := range b {
		b[i] ^= 0x5a
	}
}

// apart fails the test if two of these lists, or the room behind them, are one memory.
func apart(t *testing.T, what string, lists ...[]byte) {
	t.Helper()
	for i, l := range lists {
		for j, other := range lists {
			before := bytes.Clone(other)
			spoil(l)
			if i != j && !bytes.Equal(other, before) {
				t.Errorf("%s: the lists %d and %d share memory", what, i, j)
			}
			spoil(l)
		}
	}
}

// sum is a digest that is reckoned apart from the program.
func sum(b []byte) [32]byte { return sha256.Sum256(b) }
