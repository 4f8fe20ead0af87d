package checks

import (
	"bytes"
	"math"
	"math/big"
	"math/rand"
	"slices"
	"testing"

	"lintel/api"
	"lintel/nat"
)

// bigOf is the value of limbs.
func bigOf(x []uint32) *big.Int {
	v := new(big.Int)
	for i := len(x) - 1; i >= 0; i-- {
		v.Lsh(v, 32).Or(v, big.NewInt(int64(x[i])))
	}
	return v
}

// limbsOf is the right number of a value.
func limbsOf(v *big.Int) []uint32 {
	var x []uint32
	mask := big.NewInt(1<<32 - 1)
	for v = new(big.Int).Set(v); v.Sign() > 0; v.Rsh(v, 32) {
		x = append(x, uint32(new(big.Int).And(v, mask).Uint64()))
	}
	return x
}

// someNumber is a right number of n limbs, often of limbs at the edges.
func someNumber(r *rand.Rand, n int) []uint32 {
	x := make([]uint32, n)
	for i := range x {
		x[i] = []uint32{0, 1, math.MaxUint32, 1 << 31, r.Uint32(), r.Uint32()}[r.Intn(6)]
	}
	if n > 0 && x[n-1] == 0 {
		x[n-1] = []uint32{1, math.MaxUint32, 1 << 31}[r.Intn(3)]
	}
	return x
}

// full is a number of n limbs all of whose bits are 1.
func full(n int) []uint32 {
	return slices.Repeat([]uint32{math.MaxUint32}, n)
}

var wrongNumbers = [][]uint32{{0}, {1, 0}, make([]uint32, 257), full(257), append(full(3), 0)}

func TestNatRight(t *testing.T) {
	for _, x := range [][]uint32{nil, {1}, {0, 1}, full(256), append(make([]uint32, 255), 1)} {
		if !nat.Right(x) {
			t.Errorf("P4.1: %d limbs are not right", len(x))
		}
	}
	for _, x := range wrongNumbers {
		if nat.Right(x) {
			t.Errorf("P4.1: %d limbs are right", len(x))
		}
	}
}

func TestNatBytes(t *testing.T) {
	for s, want := range map[string][]uint32{
		"000100000002": {2, 1}, "00": nil, "": nil, "ff": {255}, "0102030405": {0x02030405, 1}, "00000000000001": {1},
	} {
		if x, e := nat.Of(unhex(s)); !slices.Equal(x, want) || e != 0 {
			t.Errorf("P4.1: Of(%s): %x, %d", s, x, e)
		}
	}
	b := roomy(bytes.Repeat([]byte{0xff}, 512))
	if x, e := nat.Of(b); !slices.Equal(x, full(128)) || e != 0 {
		t.Errorf("P4.1: Of 512 bytes: %d limbs, %d", len(x), e)
	}
	untouched(t, "R3: Of", b, bytes.Repeat([]byte{0xff}, 512))
	if x, e := nat.Of(make([]byte, 513)); len(x) != 0 || e != api.ErrBig {
		t.Errorf("P4.1: Of 513 bytes: %x, %d", x, e)
	}
	for _, c := range []struct {
		x    []uint32
		n    int
		want string
		e    api.Errno
	}{
		{[]uint32{2, 1}, 6, "000100000002", 0}, {[]uint32{2, 1}, 5, "0100000002", 0}, {[]uint32{2, 1}, 4, "", api.ErrBig},
		{nil, 0, "", 0}, {nil, 2, "0000", 0}, {[]uint32{1}, 0, "", api.ErrBig}, {[]uint32{255}, 1, "ff", 0}, {[]uint32{256}, 1, "", api.ErrBig},
		{[]uint32{1}, -1, "", api.ErrArg}, {[]uint32{1}, 1025, "", api.ErrArg}, {[]uint32{1, 0}, 4, "", api.ErrArg}, {[]uint32{0}, 4, "", api.ErrArg},
		{[]uint32{1}, math.MinInt, "", api.ErrArg}, {[]uint32{1}, math.MaxInt, "", api.ErrArg}, {full(257), 4, "", api.ErrArg},
	} {
		if b, e := nat.Octets(c.x, c.n); !bytes.Equal(b, unhex(c.want)) || e != c.e {
			t.Errorf("P4.1: Octets(%x, %d): %x, %d", c.x, c.n, b, e)
		}
	}
	if b, e := nat.Octets(full(256), 1024); !bytes.Equal(b, bytes.Repeat([]byte{0xff}, 1024)) || e != 0 {
		t.Errorf("P4.1: Octets of 256 limbs: %x, %d", b, e)
	}
	if b, e := nat.Octets(full(256), 1023); len(b) != 0 || e != api.ErrBig {
		t.Errorf("P4.1: Octets of 256 limbs in 1023 bytes: %x, %d", b, e)
	}
}

func TestNatBitsAndCmp(t *testing.T) {
	for _, c := range []struct {
		x    []uint32
		want int
	}{{nil, 0}, {[]uint32{1}, 1}, {[]uint32{255}, 8}, {[]uint32{256}, 9}, {[]uint32{0, 0, 1}, 65}, {full(256), 8192}, {[]uint32{0}, -1}, {[]uint32{1, 0}, -1}, {full(257), -1}} {
		if got := nat.Bits(c.x); got != c.want {
			t.Errorf("P4.2: Bits of %d limbs: %d, want %d", len(c.x), got, c.want)
		}
	}
	r := random(6)
	for range 2000 {
		x, y := someNumber(r, r.Intn(4)), someNumber(r, r.Intn(4))
		if got, want := nat.Cmp(x, y), bigOf(x).Cmp(bigOf(y)); got != want {
			t.Fatalf("P4.2: Cmp(%x, %x): %d, want %d", x, y, got, want)
		}
		if nat.Cmp(x, slices.Clone(x)) != 0 || nat.Bits(x) != bigOf(x).BitLen() {
			t.Fatalf("P4.2: Cmp or Bits of %x", x)
		}
	}
	for _, x := range wrongNumbers {
		if nat.Cmp(x, []uint32{1}) != 0 || nat.Cmp(nil, x) != 0 {
			t.Errorf("P4.2: Cmp of a number that is not right")
		}
	}
}

func TestNatWrongNumbers(t *testing.T) {
	one := []uint32{1}
	for name, f := range map[string]func(x, y []uint32) ([]uint32, api.Errno){"Add": nat.Add, "Sub": nat.Sub, "Mul": nat.Mul} {
		for _, x := range wrongNumbers {
			if z, e := f(x, one); len(z) != 0 || e != api.ErrArg {
				t.Errorf("P4.3: %s of a number that is not right: %x, %d", name, z, e)
			}
			if z, e := f(one, x); len(z) != 0 || e != api.ErrArg {
				t.Errorf("P4.3: %s of a number that is not right: %x, %d", name, z, e)
			}
		}
	}
	for _, x := range wrongNumbers {
		for _, pair := range [][2][]uint32{{x, one}, {one, x}} {
			if q, r, e := nat.Div(pair[0], pair[1]); len(q) != 0 || len(r) != 0 || e != api.ErrArg {
				t.Errorf("P4.3: Div of a number that is not right: %x, %x, %d", q, r, e)
			}
		}
	}
	if q, r, e := nat.Div(one, nil); len(q) != 0 || len(r) != 0 || e != api.ErrArg {
		t.Errorf("P4.3: Div by 0: %x, %x, %d", q, r, e)
	}
	if z, e := nat.Sub(one, []uint32{2}); len(z) != 0 || e != api.ErrArg {
		t.Errorf("P4.3: Sub(1, 2): %x, %d", z, e)
	}
}

func TestNatLimit(t *testing.T) {
	one := []uint32{1}
	if z, e := nat.Add(full(256), one); len(z) != 0 || e != api.ErrBig {
		t.Errorf("P4.3: Add above 256 limbs: %d limbs, %d", len(z), e)
	}
	if z, e := nat.Add(full(255), one); len(z) != 256 || e != 0 {
		t.Errorf("P4.3: Add to 256 limbs: %d limbs, %d", len(z), e)
	}
	if z, e := nat.Mul(full(128), full(128)); len(z) != 256 || e != 0 {
		t.Errorf("P4.3: Mul to 256 limbs: %d limbs, %d", len(z), e)
	}
	if z, e := nat.Mul(full(129), full(128)); len(z) != 0 || e != api.ErrBig {
		t.Errorf("P4.3: Mul above 256 limbs: %d limbs, %d", len(z), e)
	}
	power := append(make([]uint32, 128), 1) // 2^4096: 129 limbs, but its square has 257, and its product with 2^4064 256
	if z, e := nat.Mul(power, power); len(z) != 0 || e != api.ErrBig {
		t.Errorf("P4.3: Mul above 256 limbs: %d limbs, %d", len(z), e)
	}
	if z, e := nat.Mul(power, power[1:]); len(z) != 256 || e != 0 {
		t.Errorf("P4.3: Mul of 129 and 128 limbs to 256: %d limbs, %d", len(z), e)
	}
	if z, e := nat.Mul(full(256), one); !slices.Equal(z, full(256)) || e != 0 {
		t.Errorf("P4.3: Mul of 256 limbs by 1: %d limbs, %d", len(z), e)
	}
	if z, e := nat.Mul(full(256), nil); len(z) != 0 || e != 0 {
		t.Errorf("P4.3: Mul of 256 limbs by 0: %d limbs, %d", len(z), e)
	}
}

func TestNatReckons(t *testing.T) {
	r := random(7)
	for i := range 4000 {
		most := 6
		if i%50 == 0 {
			most = 128
		}
		x, y := someNumber(r, r.Intn(most+1)), someNumber(r, r.Intn(most+1))
		xs, ys := slices.Clone(x), slices.Clone(y)
		a, b := bigOf(x), bigOf(y)
		sum, e := nat.Add(x, y)
		turned, _ := nat.Add(y, x)
		if e != 0 || !slices.Equal(sum, limbsOf(new(big.Int).Add(a, b))) || !slices.Equal(sum, turned) {
			t.Fatalf("P4.3: Add(%x, %x): %x, %d", x, y, sum, e)
		}
		product, e := nat.Mul(x, y)
		turned, _ = nat.Mul(y, x)
		if e != 0 || !slices.Equal(product, limbsOf(new(big.Int).Mul(a, b))) || !slices.Equal(product, turned) {
			t.Fatalf("P4.3: Mul(%x, %x): %x, %d", x, y, product, e)
		}
		if less, e := nat.Sub(sum, y); e != 0 || !slices.Equal(less, x) {
			t.Fatalf("P4.3: Sub(%x, %x): %x, %d", sum, y, less, e)
		}
		if len(y) > 0 {
			divided(t, x, y)
			divided(t, product, y)
		}
		if !slices.Equal(x, xs) || !slices.Equal(y, ys) {
			t.Fatalf("R3: what was handed in has changed")
		}
		told, _ := nat.Octets(x, len(x)*4+r.Intn(3))
		if len(told) <= 512 {
			if again, e := nat.Of(told); e != 0 || !slices.Equal(again, x) {
				t.Fatalf("P4.4: Of(Octets) of %x: %x, %d", x, again, e)
			}
		}
	}
}

func divided(t *testing.T, x, y []uint32) {
	t.Helper()
	q, rest, e := nat.Div(x, y)
	wantQ, wantR := new(big.Int).QuoRem(bigOf(x), bigOf(y), new(big.Int))
	if e != 0 || !slices.Equal(q, limbsOf(wantQ)) || !slices.Equal(rest, limbsOf(wantR)) {
		t.Fatalf("P4.3: Div(%x, %x): %x, %x, %d", x, y, q, rest, e)
	}
	back, _ := nat.Mul(q, y)
	back, _ = nat.Add(back, rest)
	if !slices.Equal(back, x) || nat.Cmp(rest, y) >= 0 {
		t.Fatalf("P4.4: %x is not %x times %x and %x", x, q, y, rest)
	}
}

func TestNatExamples(t *testing.T) {
	if z, _ := nat.Mul([]uint32{math.MaxUint32}, []uint32{math.MaxUint32}); !slices.Equal(z, []uint32{1, 0xfffffffe}) {
		t.Errorf("P4.3: Mul: %x", z)
	}
	if z, _ := nat.Add([]uint32{math.MaxUint32}, []uint32{1}); !slices.Equal(z, []uint32{0, 1}) {
		t.Errorf("P4.3: Add: %x", z)
	}
	q, r, e := nat.Div([]uint32{0, 0, 1}, []uint32{3})
	if !slices.Equal(q, []uint32{0x55555555, 0x55555555}) || !slices.Equal(r, []uint32{1}) || e != 0 {
		t.Errorf("P4.3: Div: %x, %x, %d", q, r, e)
	}
	// Here the first guess of a digit is too great by two.
	divided(t, []uint32{0, 0, 0x80000000, 0x7fffffff}, []uint32{1, 0, 0x80000000})
	divided(t, []uint32{3, 0, 0x80000000}, []uint32{1, 0, 0x20000000})
	divided(t, []uint32{0, math.MaxUint32 - 1, 0x80000000}, []uint32{math.MaxUint32, 0x80000000})
	divided(t, full(256), []uint32{math.MaxUint32})
	divided(t, full(256), full(255))
	divided(t, full(256), full(256))
}

func TestNatAnswersAreNewMemory(t *testing.T) {
	x := append(full(3), 7, 7)[:3]
	y := []uint32{1}
	for _, f := range []func(x, y []uint32) ([]uint32, api.Errno){nat.Add, nat.Sub, nat.Mul} {
		z, _ := f(x, nil)
		for i := range z {
			z[i] = 9
		}
		z, _ = f(x, y)
		for i := range z {
			z[i] = 9
		}
	}
	q, r, _ := nat.Div(x, y)
	r = append(r, 1)
	q[0], r[0] = 9, 9
	_, r, _ = nat.Div(x, full(4))
	r[0] = 9
	if !slices.Equal(x[:5], append(full(3), 7, 7)) || y[0] != 1 {
		t.Errorf("R3: an answer is memory of what was handed in: %x, %x", x[:5], y)
	}
}
