package checks

import (
	"math"
	"math/big"
	"math/rand"
	"slices"
	"testing"

	"lintel/api"
	"lintel/mont"
	"lintel/nat"
)

// someModulus is an odd number of n limbs, at least 3.
func someModulus(r *rand.Rand, n int) []uint32 {
	m := someNumber(r, n)
	m[0] |= 1
	if n == 1 && m[0] == 1 {
		m[0] = 3
	}
	return m
}

// someBelow is a number below m, often at the edges.
func someBelow(r *rand.Rand, m []uint32) []uint32 {
	switch r.Intn(6) {
	case 0:
		return nil
	case 1:
		x, _ := nat.Sub(m, []uint32{1})
		return x
	}
	return limbsOf(new(big.Int).Rand(r, bigOf(m)))
}

func TestMontNew(t *testing.T) {
	for _, m := range [][]uint32{{3}, {11}, {1, 1}, full(128), {math.MaxUint32}} {
		if k, e := mont.New(m); k == nil || e != 0 {
			t.Errorf("P5.1: New(%x): %d", m, e)
		}
	}
	for _, m := range [][]uint32{nil, {1}, {2}, {4}, {0, 1}, {0}, {3, 0}, full(129), full(257), make([]uint32, 5)} {
		if k, e := mont.New(m); k != nil || e != api.ErrArg {
			t.Errorf("P5.1: New(%x): %d", m, e)
		}
	}
}

func TestMontExamples(t *testing.T) {
	k, _ := mont.New([]uint32{11})
	for _, c := range []struct {
		name string
		f    func(x, y []uint32) ([]uint32, api.Errno)
		x, y []uint32
		want []uint32
		e    api.Errno
	}{
		{"Mul", k.Mul, []uint32{7}, []uint32{8}, []uint32{1}, 0},
		{"Mul", k.Mul, nil, []uint32{8}, nil, 0},
		{"Mul", k.Mul, []uint32{11}, []uint32{1}, nil, api.ErrArg},
		{"Mul", k.Mul, []uint32{1}, []uint32{11}, nil, api.ErrArg},
		{"Mul", k.Mul, []uint32{1}, []uint32{1, 0}, nil, api.ErrArg},
		{"Mul", k.Mul, []uint32{0}, []uint32{1}, nil, api.ErrArg},
		{"Mul", k.Mul, full(257), []uint32{1}, nil, api.ErrArg},
		{"Exp", k.Exp, []uint32{2}, []uint32{10}, []uint32{1}, 0},
		{"Exp", k.Exp, nil, nil, []uint32{1}, 0},
		{"Exp", k.Exp, nil, []uint32{5}, nil, 0},
		{"Exp", k.Exp, []uint32{7}, nil, []uint32{1}, 0},
		{"Exp", k.Exp, []uint32{7}, []uint32{1}, []uint32{7}, 0},
		{"Exp", k.Exp, []uint32{11}, []uint32{1}, nil, api.ErrArg},
		{"Exp", k.Exp, []uint32{2}, []uint32{1, 0}, nil, api.ErrArg},
		{"Exp", k.Exp, []uint32{2}, full(257), nil, api.ErrArg},
		{"Exp", k.Exp, []uint32{2, 0}, []uint32{1}, nil, api.ErrArg},
	} {
		if got, e := c.f(c.x, c.y); !slices.Equal(got, c.want) || e != c.e {
			t.Errorf("P5.2: %s(%x, %x) modulo 11: %x, %d", c.name, c.x, c.y, got, e)
		}
	}
	var none *mont.Mod
	if x, e := none.Mul([]uint32{0}, nil); len(x) != 0 || e != api.ErrNil {
		t.Errorf("P5.2: Mul of no modulus: %x, %d", x, e)
	}
	if x, e := none.Exp([]uint32{0}, nil); len(x) != 0 || e != api.ErrNil {
		t.Errorf("P5.2: Exp of no modulus: %x, %d", x, e)
	}
}

func TestMontReckons(t *testing.T) {
	r := random(8)
	for i := range 600 {
		n := 1 + r.Intn(4)
		if i%20 == 0 {
			n = 1 + r.Intn(128)
		}
		m := someModulus(r, n)
		k, e := mont.New(m)
		if e != 0 {
			t.Fatalf("P5.1: New(%x): %d", m, e)
		}
		x, y := someBelow(r, m), someBelow(r, m)
		xs, ys := slices.Clone(x), slices.Clone(y)
		want := limbsOf(new(big.Int).Mod(new(big.Int).Mul(bigOf(x), bigOf(y)), bigOf(m)))
		if got, e := k.Mul(x, y); e != 0 || !slices.Equal(got, want) {
			t.Fatalf("P5.2: Mul(%x, %x) by %x: %x, %d", x, y, m, got, e)
		}
		a, b := someNumber(r, r.Intn(3)), someNumber(r, r.Intn(3))
		want = limbsOf(new(big.Int).Exp(bigOf(x), bigOf(a), bigOf(m)))
		xa, e := k.Exp(x, a)
		if e != 0 || !slices.Equal(xa, want) {
			t.Fatalf("P5.2: Exp(%x, %x) by %x: %x, %d", x, a, m, xa, e)
		}
		montLaws(t, k, x, y, a, b)
		if !slices.Equal(x, xs) || !slices.Equal(y, ys) {
			t.Fatalf("R3: what was handed in has changed")
		}
	}
}

func montLaws(t *testing.T, k *mont.Mod, x, y, a, b []uint32) {
	t.Helper()
	exp := func(x, e []uint32) []uint32 { z, _ := k.Exp(x, e); return z }
	mul := func(x, y []uint32) []uint32 { z, _ := k.Mul(x, y); return z }
	sum, _ := nat.Add(a, b)
	product, _ := nat.Mul(a, b)
	if !slices.Equal(exp(x, sum), mul(exp(x, a), exp(x, b))) {
		t.Fatalf("P5.3: a power of a sum of exponents: %x, %x, %x", x, a, b)
	}
	if !slices.Equal(exp(mul(x, y), a), mul(exp(x, a), exp(y, a))) {
		t.Fatalf("P5.3: a power of a product: %x, %x, %x", x, y, a)
	}
	if !slices.Equal(exp(exp(x, a), b), exp(x, product)) {
		t.Fatalf("P5.3: a power of a power: %x, %x, %x", x, a, b)
	}
}

// All products and some powers by small numbers, many of which are products themselves.
func TestMontSmall(t *testing.T) {
	for m := uint32(3); m < 48; m += 2 {
		k, _ := mont.New([]uint32{m})
		for x := range m {
			for y := range m {
				if got, e := k.Mul(limbsOf(big.NewInt(int64(x))), limbsOf(big.NewInt(int64(y)))); e != 0 || bigOf(got).Uint64() != uint64(x*y%m) {
					t.Fatalf("P5.2: Mul(%d, %d) by %d: %x, %d", x, y, m, got, e)
				}
			}
			if got, e := k.Exp(limbsOf(big.NewInt(int64(x))), []uint32{2}); e != 0 || bigOf(got).Uint64() != uint64(x*x%m) {
				t.Fatalf("P5.2: Exp(%d, 2) by %d: %x, %d", x, m, got, e)
			}
		}
	}
}

func TestMontGreatest(t *testing.T) {
	r := random(9)
	m := full(128)
	k, _ := mont.New(m)
	x, e := someBelow(r, m), full(256)
	want := limbsOf(new(big.Int).Exp(bigOf(x), bigOf(e), bigOf(m)))
	if got, err := k.Exp(x, e); err != 0 || !slices.Equal(got, want) {
		t.Errorf("P5.2: Exp of 256 limbs: %x, %d", got, err)
	}
}

func TestMontKeepsNothing(t *testing.T) {
	m := []uint32{11}
	k, _ := mont.New(m)
	m[0] = 13
	if got, _ := k.Mul([]uint32{7}, []uint32{8}); !slices.Equal(got, []uint32{1}) {
		t.Errorf("R3: the modulus that was handed in is kept: %x", got)
	}
	x := []uint32{7}
	got, _ := k.Exp(x, []uint32{1})
	got[0] = 1
	if x[0] != 7 {
		t.Errorf("R3: Exp answers memory of what it was handed")
	}
}
