package checks

import (
	"bytes"
	"encoding/binary"
	"math"
	"testing"

	"lintel/api"
	"lintel/octet"
)

func TestOctetGet(t *testing.T) {
	b := []byte{1, 2, 3, 4, 5, 6, 7, 8, 9}
	for _, x := range []struct {
		at, size  int
		low, high uint64
		e         api.Errno
	}{
		{1, 1, 2, 2, 0},
		{1, 2, 770, 515, 0},
		{0, 4, 0x04030201, 0x01020304, 0},
		{1, 8, 0x0908070605040302, 0x0203040506070809, 0},
		{8, 1, 9, 9, 0},
		{9, 1, 0, 0, api.ErrArg},
		{8, 2, 0, 0, api.ErrArg},
		{2, 8, 0, 0, api.ErrArg},
		{0, 0, 0, 0, api.ErrArg},
		{0, 3, 0, 0, api.ErrArg},
		{0, 5, 0, 0, api.ErrArg},
		{0, 16, 0, 0, api.ErrArg},
		{0, -1, 0, 0, api.ErrArg},
		{-1, 1, 0, 0, api.ErrArg},
		{math.MinInt, 8, 0, 0, api.ErrArg},
		{math.MaxInt, 8, 0, 0, api.ErrArg},
		{math.MaxInt - 7, 8, 0, 0, api.ErrArg},
	} {
		if got, e := octet.Get(b, x.at, x.size); got != x.low || e != x.e {
			t.Errorf("P1.1: Get at %d, %d: %d, %d", x.at, x.size, got, e)
		}
		if got, e := octet.GetBig(b, x.at, x.size); got != x.high || e != x.e {
			t.Errorf("P1.2: GetBig at %d, %d: %d, %d", x.at, x.size, got, e)
		}
	}
	if _, e := octet.Get(nil, 0, 1); e != api.ErrArg {
		t.Errorf("P1.1: Get of nothing: %d", e)
	}
}

func TestOctetPut(t *testing.T) {
	x := uint64(0x8877665544332211)
	low := map[int]string{1: "ff11", 2: "ff1122", 4: "ff11223344", 8: "ff1122334455667788", 0: "ff", 3: "ff", -1: "ff", 9: "ff"}
	high := map[int]string{1: "ff11", 2: "ff2211", 4: "ff44332211", 8: "ff8877665544332211", 0: "ff", 3: "ff", -1: "ff", 9: "ff"}
	for size, want := range low {
		b := roomy([]byte{0xff})
		got := octet.Put(b, x, size)
		equal(t, "P1.1: Put", got, unhex(want))
		spoil(got)
		untouched(t, "R3: Put", b, []byte{0xff})
	}
	for size, want := range high {
		b := roomy([]byte{0xff})
		got := octet.PutBig(b, x, size)
		equal(t, "P1.2: PutBig", got, unhex(want))
		spoil(got)
		untouched(t, "R3: PutBig", b, []byte{0xff})
	}
	equal(t, "P1.1: Put behind nothing", octet.Put(nil, 258, 2), []byte{2, 1})
}

func TestOctetPutIsGot(t *testing.T) {
	r := random(1)
	for range 2000 {
		ahead := someBytes(r, r.Intn(5))
		size := 1 << r.Intn(4)
		x := r.Uint64()
		kept := x
		if size < 8 {
			kept = x & (1<<(8*size) - 1)
		}
		b, big := octet.Put(ahead, x, size), octet.PutBig(ahead, x, size)
		if got, e := octet.Get(b, len(ahead), size); got != kept || e != 0 {
			t.Fatalf("what follows: Put %x, %d, Get %x, %d", x, size, got, e)
		}
		if got, e := octet.GetBig(big, len(ahead), size); got != kept || e != 0 {
			t.Fatalf("what follows: PutBig %x, %d, GetBig %x, %d", x, size, got, e)
		}
		eight := binary.LittleEndian.AppendUint64(append([]byte{}, ahead...), x)
		equal(t, "P1.1: Put", b, eight[:len(ahead)+size])
		for i := range size {
			if b[len(ahead)+i] != big[len(ahead)+size-1-i] {
				t.Fatalf("what follows: the bytes of %x and %x are not turned round", b, big)
			}
		}
	}
}

func TestOctetTexts(t *testing.T) {
	for s, want := range map[string]string{
		"AB": "A\x00B\x00", "": "", "\x7f": "\x7f\x00", "\x01": "\x01\x00",
		"A\x00": "", "\x00": "", "é": "", "Aé": "", "\x80": "", "A\xff": "", "\xc3": "", "\u0080": "", "\U0010ffff": "",
	} {
		equal(t, "P1.3: Wide", octet.Wide(s), []byte(want))
	}
	for s, want := range map[string]string{"A\x00B\x00": "AB", "": "", "\x7f\x00": "\x7f", "\x01\x00": "\x01"} {
		if got, e := octet.Narrow([]byte(s)); got != want || e != 0 {
			t.Errorf("P1.3: Narrow of %q: %q, %d", s, got, e)
		}
	}
	for _, s := range []string{"A\x00B", "A", "A\x01", "\x00\x00", "\x80\x00", "A\x00\x00\x00", "\x00A", "A\x00\xff\x00"} {
		if got, e := octet.Narrow([]byte(s)); got != "" || e != api.ErrForm {
			t.Errorf("P1.3: Narrow of %q: %q, %d", s, got, e)
		}
	}
	all := make([]byte, 127)
	for i := range all {
		all[i] = byte(i + 1)
	}
	if got, e := octet.Narrow(octet.Wide(string(all))); got != string(all) || e != 0 {
		t.Errorf("what follows: Narrow of Wide: %q, %d", got, e)
	}
}

func TestOctetCut(t *testing.T) {
	b := roomy([]byte{1, 2, 3})
	for _, x := range []struct {
		at, n int
		want  []byte
		ok    bool
	}{
		{0, 3, []byte{1, 2, 3}, true}, {1, 1, []byte{2}, true}, {3, 0, nil, true}, {0, 0, nil, true},
		{2, 2, nil, false}, {4, 0, nil, false}, {-1, 1, nil, false}, {0, -1, nil, false}, {0, 4, nil, false},
		{math.MaxInt, math.MaxInt, nil, false}, {1, math.MaxInt, nil, false}, {math.MinInt, math.MinInt, nil, false},
	} {
		got, ok := octet.Cut(b, x.at, x.n)
		if !bytes.Equal(got, x.want) || ok != x.ok {
			t.Errorf("P1.4: Cut at %d, %d: %v, %v", x.at, x.n, got, ok)
		}
		spoil(got)
		untouched(t, "R3: Cut", b, []byte{1, 2, 3})
	}
	if got, ok := octet.Cut(nil, 0, 0); len(got) != 0 || !ok {
		t.Errorf("P1.4: Cut of nothing: %v, %v", got, ok)
	}
}
