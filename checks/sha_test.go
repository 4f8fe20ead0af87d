package checks

import (
	"crypto/sha256"
	"testing"

	"lintel/sha"
)

func TestShaSum(t *testing.T) {
	for s, want := range map[string]string{
		"":    "e3b0c44298fc1c149afbf4c8996fb92427ae41e4649b934ca495991b7852b855",
		"abc": "ba7816bf8f01cfea414140de5dae2223b00361a396177a9cb410ff61f20015ad",
	} {
		got := sha.Sum([]byte(s))
		equal(t, "P3.1: Sum of "+s, got[:], unhex(want))
	}
	r := random(4)
	// All lengths around the edges of one and two blocks, where the padding goes over into another block.
	for n := range 200 {
		b := someBytes(r, n)
		if got, want := sha.Sum(b), sha256.Sum256(b); got != want {
			t.Errorf("P3.1: Sum of %d bytes: %x, want %x", n, got, want)
		}
	}
	for range 20 {
		b := someBytes(r, r.Intn(100000))
		if got, want := sha.Sum(b), sha256.Sum256(b); got != want {
			t.Errorf("P3.1: Sum of %d bytes: %x, want %x", len(b), got, want)
		}
	}
}

func TestShaState(t *testing.T) {
	r := random(5)
	for i := range 200 {
		b := someBytes(r, r.Intn(400))
		s := sha.New()
		if i%2 == 0 {
			s = &sha.State{}
		}
		at := 0
		for at < len(b) {
			n := min(r.Intn(1+r.Intn(150)), len(b)-at)
			piece := roomy(b[at : at+n])
			s.Write(piece)
			untouched(t, "R3: Write", piece, b[at:at+n])
			spoil(piece)
			at += n
			if got, want := s.Sum(), sha256.Sum256(b[:at]); got != want {
				t.Fatalf("P3.2: Sum on the way, behind %d bytes: %x, want %x", at, got, want)
			}
		}
		s.Write(nil)
		if got, again := s.Sum(), s.Sum(); got != again || got != sha256.Sum256(b) {
			t.Fatalf("P3.2: Sum of a state of %d bytes: %x, then %x", len(b), got, again)
		}
	}
	if new(sha.State).Sum() != sha.Sum(nil) || sha.New().Sum() != sha.Sum(nil) {
		t.Errorf("P3.2: a state without bytes has not the sum of nothing")
	}
}

func TestShaNoState(t *testing.T) {
	var s *sha.State
	s.Write([]byte{1})
	if s.Sum() != [32]byte{} {
		t.Errorf("P3.2: Sum of no state: %x", s.Sum())
	}
}

func TestShaStatesAreApart(t *testing.T) {
	a, b := sha.New(), sha.New()
	a.Write([]byte("abc"))
	if b.Sum() != sha.Sum(nil) {
		t.Errorf("P3.2: a write to one state is seen in another one")
	}
}

func TestShaSame(t *testing.T) {
	for _, x := range []struct {
		a, b string
		want bool
	}{
		{"a", "a", true}, {"a", "b", false}, {"a", "", false}, {"", "a", false}, {"", "", true},
		{"abc", "abd", false}, {"xbc", "abc", false}, {"abc", "ab", false}, {"a\x01", "a\x81", false}, {"\x01\x02", "\x02\x01", false},
	} {
		if sha.Same([]byte(x.a), []byte(x.b)) != x.want {
			t.Errorf("P3.3: Same of %q and %q: %v", x.a, x.b, !x.want)
		}
	}
	if !sha.Same(nil, []byte{}) {
		t.Errorf("P3.3: Same of nothing and none: no")
	}
}
