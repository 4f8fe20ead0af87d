package checks

import (
	"bytes"
	"math"
	"math/rand"
	"slices"
	"testing"

	"lintel/api"
	"lintel/der"
)

func TestDerParse(t *testing.T) {
	long := func(n int) []byte { return make([]byte, n) }
	for _, c := range []struct {
		head       []byte
		body, rest []byte
	}{
		{unhex("0201"), unhex("05"), unhex("ff")}, {unhex("0500"), nil, nil}, {unhex("0500"), nil, unhex("02")}, {unhex("a303"), unhex("010203"), nil},
		{unhex("047f"), long(127), nil}, {unhex("048180"), long(128), unhex("00")}, {unhex("0481ff"), long(255), nil}, {unhex("04820100"), long(256), unhex("0102")},
		{unhex("0483010000"), long(65536), nil}, {unhex("048401000000"), long(1 << 24), nil}, {unhex("1e00"), nil, nil}, {unhex("de00"), nil, nil},
	} {
		raw := slices.Concat(c.head, c.body)
		b := roomy(slices.Concat(raw, c.rest))
		got, rest, e := der.Parse(b)
		if e != 0 || got.Tag != c.head[0] || !bytes.Equal(got.Body, c.body) || !bytes.Equal(got.Raw, raw) || !bytes.Equal(rest, c.rest) {
			t.Errorf("P10.1: Parse of %x ..: tag %x, %d bytes, rest %x, %d", c.head, got.Tag, len(got.Body), rest, e)
		}
		equal(t, "what follows: Write of what was parsed", der.Write(got.Tag, got.Body), raw)
		spoil(got.Body)
		equal(t, "R3: Raw and Body are apart", got.Raw, raw)
		spoil(got.Raw)
		spoil(rest)
		untouched(t, "R3: Parse", b, slices.Concat(raw, c.rest))
	}
	for _, s := range []string{
		"", "02", "028105" + "0000000000", "0280", "0280" + "0000", "1f00", "3f00", "ff00", "5f0100", "020205", "0481", "04817f" + "00", "048200ff", "04820080" + "00", "04850000000001" + "00", "0485010000000000", "04ff", "0482", "048201", "0484ffffffff", "04840000008000", "048100",
	} {
		b := unhex(s)
		if x, rest, e := der.Parse(b); e != api.ErrForm || x.Tag != 0 || len(x.Body)+len(x.Raw)+len(rest) != 0 {
			t.Errorf("P10.1: Parse of %s: %x, %x, %d", s, x, rest, e)
		}
	}
	if _, _, e := der.Parse(append(unhex("0480"), make([]byte, 300)...)); e != api.ErrForm {
		t.Errorf("P10.1: Parse of 04 80 and 300 bytes: %d", e)
	}
	// Numbers that would be right lengths, were their first byte not 0, or were they not below 80.
	for _, head := range []string{"04820080", "0481007f", "04817f", "0483000100", "048400010000"} {
		if _, _, e := der.Parse(append(unhex(head), make([]byte, 70000)...)); e != api.ErrForm {
			t.Errorf("P10.1: Parse of %s ..: %d", head, e)
		}
	}
}

func TestDerAll(t *testing.T) {
	l, e := der.All(unhex("020105 3003020107 0500"))
	if e != 0 || len(l) != 3 || l[0].Tag != 2 || l[1].Tag != 0x30 || l[2].Tag != 5 {
		t.Fatalf("P10.1: All: %x, %d", l, e)
	}
	equal(t, "P10.1: All", l[1].Body, unhex("020107"))
	equal(t, "P10.1: All", l[1].Raw, unhex("3003020107"))
	if l, e := der.All(nil); len(l) != 0 || e != 0 {
		t.Errorf("P10.1: All of nothing: %x, %d", l, e)
	}
	for _, s := range []string{"02", "020105 02", "020105 1f00", "0500 0201"} {
		if l, e := der.All(unhex(s)); len(l) != 0 || e != api.ErrForm {
			t.Errorf("P10.1: All of %s: %x, %d", s, l, e)
		}
	}
}

// nested is so many elements of a tag in one another, the innermost one with a body.
func nested(n int, tag byte, inner []byte) []byte {
	b := inner
	for range n {
		b = der.Write(tag, b)
	}
	return b
}

func TestDerCheck(t *testing.T) {
	for _, c := range []struct {
		b    []byte
		want api.Errno
	}{
		{unhex("30023000"), 0}, {unhex("30020501"), api.ErrForm}, {unhex("3000"), 0}, {unhex("0500"), 0}, {unhex("0401ff"), 0},
		{nil, api.ErrForm}, {unhex("05000500"), api.ErrForm}, {unhex("0500ff"), api.ErrForm}, {unhex("05"), api.ErrForm},
		{unhex("040130"), 0}, {unhex("a40130"), api.ErrForm}, {unhex("e1020500"), 0}, {unhex("e10205"), api.ErrForm},
		{nested(16, 0x30, nil), 0}, {nested(17, 0x30, nil), api.ErrBig}, {nested(17, 0xa0, nil), api.ErrBig},
		{nested(15, 0x30, unhex("0401ff")), 0}, {nested(16, 0x30, unhex("0401ff")), api.ErrBig}, {nested(16, 0x30, unhex("ff")), api.ErrBig}, {nested(15, 0x30, unhex("ff")), api.ErrForm},
		{nested(100, 0x04, nil), 0}, {nested(10000, 0x30, nil), api.ErrBig},
		// The first error, in the order in which elements are gone through.
		{der.Write(0x30, der.Join(nested(16, 0x30, nil), unhex("30020501"))), api.ErrBig},
		{der.Write(0x30, der.Join(unhex("30020501"), nested(16, 0x30, nil))), api.ErrForm},
		{der.Write(0x30, der.Join(nested(16, 0x30, nil), unhex("0501"))), api.ErrForm},
	} {
		if got := der.Check(c.b); got != c.want {
			t.Errorf("P10.2: Check of %d bytes (%.20x): %d, want %d", len(c.b), c.b, got, c.want)
		}
	}
}

func TestDerWrite(t *testing.T) {
	for n, head := range map[int]string{0: "0400", 1: "0401", 127: "047f", 128: "048180", 255: "0481ff", 256: "04820100", 65535: "0482ffff", 65536: "0483010000", 1 << 24: "048401000000"} {
		body := bytes.Repeat([]byte{7}, n)
		equal(t, "P10.3: Write", der.Write(4, body), append(unhex(head), body...))
	}
	equal(t, "P10.3: Write of whatever tag", der.Write(0x1f, []byte{1}), unhex("1f0101"))
	equal(t, "P10.3: Join", der.Join([]byte{1}, nil, []byte{2, 3}), []byte{1, 2, 3})
	equal(t, "P10.3: Join of nothing", der.Join(), nil)
	body := roomy([]byte{1, 2})
	spoil(der.Join(body))
	spoil(der.Write(4, body))
	spoil(der.PutInt(body))
	untouched(t, "R3: Join, Write, PutInt", body, []byte{1, 2})
}

func TestDerInt(t *testing.T) {
	for s, want := range map[string]string{"00": "", "0080": "80", "7f": "7f", "01": "01", "00ff01": "ff01", "0100": "0100"} {
		got, ok := der.Int(unhex(s))
		equal(t, "P10.4: Int", got, unhex(want))
		if !ok {
			t.Errorf("P10.4: Int of %s: no", s)
		}
		equal(t, "what follows: PutInt of Int", der.PutInt(got), unhex(s))
		equal(t, "P10.4: PutInt with noughts ahead", der.PutInt(append([]byte{0, 0}, got...)), unhex(s))
		spoil(got)
	}
	for _, s := range []string{"", "80", "ff01", "007f", "0000", "000080"} {
		if got, ok := der.Int(unhex(s)); ok || len(got) != 0 {
			t.Errorf("P10.4: Int of %s: %x, %v", s, got, ok)
		}
	}
}

func TestDerOid(t *testing.T) {
	top := uint64(math.MaxUint64)
	for s, want := range map[string][]uint64{
		"2a8648": {1, 2, 840}, "883703": {2, 999, 3}, "00": {0, 0}, "27": {0, 39}, "28": {1, 0}, "4f": {1, 39}, "50": {2, 0}, "7f": {2, 47}, "8100": {2, 48},
		"2a81ffffffffffffffff7f": {1, 2, top}, "81ffffffffffffffff7f": {2, top - 80}, "2a00": {1, 2, 0}, "2a7f8100": {1, 2, 127, 128},
	} {
		got, ok := der.Oid(unhex(s))
		if !ok || !slices.Equal(got, want) {
			t.Errorf("P10.5: Oid of %s: %d, %v", s, got, ok)
		}
		equal(t, "P10.5: PutOid", der.PutOid(want), unhex(s))
	}
	for _, s := range []string{"", "8001", "80", "2a80", "2a8001", "2a86", "2a8280808080808080808000", "2a82808080808080808000", "8280808080808080808000", "2a81ffffffffffffffffff7f"} {
		if got, ok := der.Oid(unhex(s)); ok || len(got) != 0 {
			t.Errorf("P10.5: Oid of %s: %d, %v", s, got, ok)
		}
	}
	for _, arcs := range [][]uint64{nil, {1}, {3, 1}, {0, 40}, {1, 40}, {2, top - 79}, {top, 1}, {1, top}, {2, top}} {
		if got := der.PutOid(arcs); len(got) != 0 {
			t.Errorf("P10.5: PutOid of %d: %x", arcs, got)
		}
	}
	r := random(15)
	for range 2000 {
		arcs := []uint64{uint64(r.Intn(3)), uint64(r.Intn(40))}
		for range r.Intn(5) {
			arcs = append(arcs, r.Uint64()>>r.Intn(64))
		}
		if got, ok := der.Oid(der.PutOid(arcs)); !ok || !slices.Equal(got, arcs) {
			t.Fatalf("what follows: Oid of PutOid of %d: %d", arcs, got)
		}
		body := someBytes(r, r.Intn(6))
		if arcs, ok := der.Oid(body); ok {
			equal(t, "what follows: PutOid of Oid", der.PutOid(arcs), body)
		}
	}
}

func TestDerBits(t *testing.T) {
	for s, want := range map[string]int{"0308": 3, "00": 0, "00ff": 0, "0780": 7, "01fffe": 1, "0400f0": 4} {
		bits, unused, ok := der.Bits(unhex(s))
		equal(t, "P10.6: Bits", bits, unhex(s)[1:])
		if unused != want || !ok {
			t.Errorf("P10.6: Bits of %s: %d, %v", s, unused, ok)
		}
	}
	for _, s := range []string{"", "0408", "01", "07", "08", "0800", "ff00", "01ff", "07c0", "0701"} {
		if bits, unused, ok := der.Bits(unhex(s)); len(bits) != 0 || unused != 0 || ok {
			t.Errorf("P10.6: Bits of %s: %x, %d, %v", s, bits, unused, ok)
		}
	}
}

func TestDerSets(t *testing.T) {
	for _, c := range []struct{ l, want []string }{
		{[]string{"020105", "020103"}, []string{"020103", "020105"}},
		{[]string{"0202", "02"}, []string{"02", "0202"}},
		{[]string{"ff", "80", "7f", "00"}, []string{"00", "7f", "80", "ff"}},
		{nil, nil},
		{[]string{"05", "05"}, []string{"05", "05"}},
	} {
		var l [][]byte
		for _, s := range c.l {
			l = append(l, unhex(s))
		}
		var want []byte
		for _, s := range c.want {
			want = append(want, unhex(s)...)
		}
		equal(t, "P10.7: Sets", der.Sets(l), want)
		for i, s := range c.l {
			equal(t, "R3: Sets", l[i], unhex(s))
		}
	}
	for s, want := range map[string]bool{
		"020103 020105": true, "020105 020103": false, "": true, "0500": true, "0500 0500": true, "020103 02": false, "0500 020103": false, "1f00": false, "0201ff 02020001": true, "02020001 0201ff": false, "020100 020180": true,
	} {
		if der.Set(unhex(s)) != want {
			t.Errorf("P10.7: Set of %s: %v", s, !want)
		}
	}
}

// someElement is an element of elements, at most so deep.
func someElement(r *rand.Rand, deep int) []byte {
	if deep == 0 || r.Intn(3) == 0 {
		return der.Write([]byte{2, 4, 5, 0x17, 0x80}[r.Intn(5)], someBytes(r, r.Intn(200)))
	}
	var body []byte
	for range r.Intn(4) {
		body = append(body, someElement(r, deep-1)...)
	}
	return der.Write([]byte{0x30, 0x31, 0xa0}[r.Intn(3)], body)
}

func TestDerFollows(t *testing.T) {
	r := random(16)
	for range 2000 {
		b, rest := someElement(r, 5), someBytes(r, r.Intn(4))
		x, behind, e := der.Parse(append(bytes.Clone(b), rest...))
		if e != 0 || !bytes.Equal(x.Raw, b) || !bytes.Equal(behind, rest) || !bytes.Equal(der.Write(x.Tag, x.Body), b) {
			t.Fatalf("what follows: Parse of what was written: %x, %d", b, e)
		}
		if der.Check(b) != 0 || der.Check(b[:len(b)-1]) != api.ErrForm || der.Check(append(bytes.Clone(b), 0)) != api.ErrForm {
			t.Fatalf("P10.2: Check of %x", b)
		}
		var l [][]byte
		for range r.Intn(5) {
			l = append(l, someElement(r, 2))
		}
		if !der.Set(der.Sets(l)) {
			t.Fatalf("what follows: Sets of %x is no Set", l)
		}
		some := someBytes(r, r.Intn(12))
		if x, rest, e := der.Parse(some); e == 0 && !bytes.Equal(append(der.Write(x.Tag, x.Body), rest...), some) {
			t.Fatalf("what follows: %x is written otherwise than it was read", some)
		}
	}
}
