package checks

import (
	"encoding/binary"
	"hash/crc32"
	"testing"

	"lintel/crc"
)

func TestCrcSum(t *testing.T) {
	for s, want := range map[string]uint32{"": 0, "123456789": 0xcbf43926, "\x00": 0xd202ef8d, "\xff": 0xff000000} {
		if got := crc.Sum([]byte(s)); got != want {
			t.Errorf("P2.1: Sum of %q: %x, want %x", s, got, want)
		}
	}
	if crc.Sum(nil) != 0 {
		t.Errorf("P2.1: Sum of nil: %x", crc.Sum(nil))
	}
	if got := crc.Extend(crc.Sum([]byte("12345")), []byte("6789")); got != 0xcbf43926 {
		t.Errorf("P2.1: Extend: %x", got)
	}
	for i := range 256 {
		if got, want := crc.Sum([]byte{byte(i)}), crc32.ChecksumIEEE([]byte{byte(i)}); got != want {
			t.Errorf("P2.1: Sum of the byte %d: %x, want %x", i, got, want)
		}
	}
}

// stepped is the text of P2.1, bit by bit.
func stepped(sum uint32, b []byte) uint32 {
	register := ^sum
	for _, x := range b {
		for i := range 8 {
			bit := uint32(x) >> i & 1
			low := register & 1
			register >>= 1
			if low != bit {
				register ^= 0xedb88320
			}
		}
	}
	return ^register
}

func TestCrcFollows(t *testing.T) {
	r := random(2)
	for range 500 {
		sum, n := r.Uint32(), r.Intn(40)
		a, b, c := someBytes(r, n), someBytes(r, n), someBytes(r, n)
		if got, want := crc.Extend(sum, a), stepped(sum, a); got != want {
			t.Fatalf("P2.1: Extend(%x, %x): %x, want %x", sum, a, got, want)
		}
		if crc.Extend(crc.Extend(sum, a), b) != crc.Extend(sum, append(append([]byte{}, a...), b...)) {
			t.Fatalf("what follows: Extend by %x and then by %x", a, b)
		}
		if crc.Extend(sum, nil) != sum {
			t.Fatalf("what follows: Extend of %x by nothing", sum)
		}
		mixed := make([]byte, n)
		for i := range mixed {
			mixed[i] = a[i] ^ b[i] ^ c[i]
		}
		if crc.Sum(mixed) != crc.Sum(a)^crc.Sum(b)^crc.Sum(c) {
			t.Fatalf("what follows: the sum of three texts put together")
		}
		whole := binary.LittleEndian.AppendUint32(append([]byte{}, a...), crc.Sum(a))
		if crc.Sum(whole) != 0x2144df1c {
			t.Fatalf("what follows: a text with its sum: %x", crc.Sum(whole))
		}
		if other := sum + 1; crc.Extend(sum, a) == crc.Extend(other, a) {
			t.Fatalf("what follows: two sums come to one")
		}
	}
}

func TestCrcBursts(t *testing.T) {
	r := random(3)
	for range 500 {
		text := someBytes(r, 1+r.Intn(20))
		whole := binary.LittleEndian.AppendUint32(append([]byte{}, text...), crc.Sum(text))
		from := r.Intn(len(whole)*8 - 31)
		turned := append([]byte{}, whole...)
		turns := r.Uint32() | 1
		for i := range 32 {
			if turns>>i&1 == 1 {
				turned[(from+i)/8] ^= 1 << ((from + i) % 8)
			}
		}
		n := len(text)
		if binary.LittleEndian.Uint32(turned[n:]) == crc.Sum(turned[:n]) {
			t.Fatalf("what follows: bits turned within 32 are not seen: %x, %x", whole, turned)
		}
	}
}

func TestCrcLeavesWhatItIsHanded(t *testing.T) {
	b := roomy([]byte{1, 2, 3})
	crc.Extend(7, b)
	crc.Sum(b)
	untouched(t, "R3: crc", b, []byte{1, 2, 3})
}
