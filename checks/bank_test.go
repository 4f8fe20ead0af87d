package checks

import (
	"bytes"
	"encoding/binary"
	"hash/crc32"
	"math"
	"testing"

	"lintel/api"
	"lintel/bank"
	"lintel/flash"
)

// newBank is a bank of some sectors that is formatted.
func newBank(t *testing.T, f *flash.Flash, first, count int) *bank.Bank {
	t.Helper()
	b, e := bank.At(f, first, count)
	if b == nil || e != 0 {
		t.Fatalf("P8.1: At(%d, %d): %d", first, count, e)
	}
	wantErr(t, "P8.2: Format", b.Format(5), 0)
	return b
}

// rawRecord is a record's bytes, written apart from the program.
func rawRecord(state byte, key, value []byte) []byte {
	head := []byte{0xa5}
	head = binary.LittleEndian.AppendUint16(head, uint16(len(key)))
	head = binary.LittleEndian.AppendUint32(head, uint32(len(value)))
	all := append(append(bytes.Clone(head), key...), value...)
	head = binary.LittleEndian.AppendUint32(head, crc32.ChecksumIEEE(all))
	return append(append([]byte{state}, head...), all[7:]...)
}

func rawHead(gen uint32) []byte {
	b := binary.LittleEndian.AppendUint32([]byte("LNTL"), gen)
	return binary.LittleEndian.AppendUint32(b, crc32.ChecksumIEEE(b))
}

// wantScan fails the test unless the bank has these records, told as key=value (living) or key:value (gone).
func wantScan(t *testing.T, what string, b *bank.Bank, want []string, end int, whole bool) {
	t.Helper()
	l, at, ok, e := b.Scan()
	if e != 0 || at != end || ok != whole || len(l) != len(want) {
		t.Errorf("%s: Scan: %d records, end %d, whole %v, %d; want %d, %d, %v", what, len(l), at, ok, e, len(want), end, whole)
		return
	}
	for i, r := range l {
		if got := told(r); got != want[i] {
			t.Errorf("%s: Scan: the record %d is %q, want %q", what, i, got, want[i])
		}
	}
}

func told(r bank.Rec) string {
	if r.Lives {
		return string(r.Key) + "=" + string(r.Value)
	}
	return string(r.Key) + ":" + string(r.Value)
}

func TestBankAt(t *testing.T) {
	f := newFlash(t, 4, 32)
	for _, c := range []struct {
		first, count, room int
		e                  api.Errno
	}{
		{0, 2, 48, 0}, {2, 2, 48, 0}, {0, 4, 112, 0}, {1, 3, 80, 0},
		{0, 1, 0, api.ErrArg}, {3, 2, 0, api.ErrArg}, {0, 5, 0, api.ErrArg}, {0, 0, 0, api.ErrArg}, {0, -1, 0, api.ErrArg}, {-1, 3, 0, api.ErrArg},
		{math.MaxInt, 2, 0, api.ErrArg}, {2, math.MaxInt, 0, api.ErrArg}, {math.MaxInt, math.MaxInt, 0, api.ErrArg}, {math.MinInt, math.MinInt, 0, api.ErrArg},
	} {
		b, e := bank.At(f, c.first, c.count)
		wantErr(t, "P8.1: At", e, c.e)
		if (b != nil) != (e == 0) || b.Room() != c.room {
			t.Errorf("P8.1: At(%d, %d): room %d, want %d", c.first, c.count, b.Room(), c.room)
		}
	}
	_, e := bank.At(newFlash(t, 1, 63), 0, 1)
	wantErr(t, "P8.1: At of 63 bytes", e, api.ErrArg)
	b, e := bank.At(nil, -1, 0)
	wantErr(t, "P8.1: At of no flash", e, api.ErrNil)
	if b != nil || bank.Need(3, 4) != 19 || bank.Need(0, 0) != 12 {
		t.Errorf("P8.1: Need(3, 4): %d", bank.Need(3, 4))
	}
}

func TestBankNone(t *testing.T) {
	var b *bank.Bank
	wantErr(t, "R4: Format", b.Format(1), api.ErrNil)
	wantErr(t, "R4: Ready", b.Ready(), api.ErrNil)
	wantErr(t, "R4: Add", b.Add(nil, nil), api.ErrNil)
	wantErr(t, "R4: Kill", b.Kill(-1), api.ErrNil)
	gen, ready, e := b.Head()
	wantErr(t, "R4: Head", e, api.ErrNil)
	l, end, whole, e := b.Scan()
	wantErr(t, "R4: Scan", e, api.ErrNil)
	if gen != 0 || ready || len(l) != 0 || end != 0 || whole {
		t.Errorf("R2: something beside an error")
	}
	if b.Room() != 0 {
		t.Errorf("R4: Room: %d", b.Room())
	}
}

func TestBankHead(t *testing.T) {
	f := newFlash(t, 3, 64)
	b, _ := bank.At(f, 1, 2)
	head := func(gen uint32, ready bool) {
		t.Helper()
		g, r, e := b.Head()
		if g != gen || r != ready || e != 0 {
			t.Errorf("P8.2: Head: %d, %v, %d; want %d, %v", g, r, e, gen, ready)
		}
	}
	head(0, false)
	f.Program(64, make([]byte, 128))
	before := f.Writes()
	wantErr(t, "P8.2: Format", b.Format(0x01020304), 0)
	equal(t, "P8.2: the bytes of a bank", f.Image(), append(append(ff(64), rawHead(0x01020304)...), ff(128-12)...))
	if f.Writes() != before+2+12 {
		t.Errorf("P8.2: Format: %d writes", f.Writes()-before)
	}
	head(0x01020304, false)
	wantErr(t, "P8.2: Ready", b.Ready(), 0)
	head(0x01020304, true)
	equal(t, "P8.2: the bytes of a bank that is ready", f.Image()[64:80], append(rawHead(0x01020304), 0xfe, 0xff, 0xff, 0xff))
	for i, x := range rawHead(7) {
		b.Format(7)
		b.Ready()
		f.Program(64+i, []byte{x & (x - 1)})
		if x != 0 {
			head(0, false)
		}
	}
	b.Format(7)
	f.Program(64+12, []byte{0xfc})
	head(7, false)
	// The first error of a Format: the second erasure, then the first byte.
	for n := range 3 {
		f.Arm(1+n, 0)
		wantErr(t, "P8.2: Format without power", b.Format(9), api.ErrDead)
		gen, ready, e := b.Head()
		wantErr(t, "P8.2: Head without power", e, api.ErrDead)
		if gen != 0 || ready {
			t.Errorf("R2: Head without power: %d, %v", gen, ready)
		}
		wantErr(t, "P8.2: Ready without power", b.Ready(), api.ErrDead)
		f.On()
	}
}

func TestBankExample(t *testing.T) {
	f := newFlash(t, 1, 64)
	b := newBank(t, f, 0, 1)
	wantScan(t, "P8.3", b, nil, 16, true)
	key, value := roomy([]byte("k")), roomy([]byte{1, 2})
	before := f.Writes()
	wantErr(t, "P8.4: Add", b.Add(key, value), 0)
	if f.Writes() != before+16 {
		t.Errorf("P8.4: Add: %d writes, want 16", f.Writes()-before)
	}
	untouched(t, "R3: Add", key, []byte("k"))
	untouched(t, "R3: Add", value, []byte{1, 2})
	equal(t, "P8.4: the bytes of a record", f.Image()[16:32], append(rawRecord(0xfc, []byte("k"), []byte{1, 2}), 0xff))
	wantScan(t, "P8.3", b, []string{"k=\x01\x02"}, 31, true)
	wantErr(t, "P8.4: Add without room", b.Add(key, make([]byte, 22)), api.ErrFull)
	wantErr(t, "P8.4: Add up to the end", b.Add(key, make([]byte, 20)), 0)
	wantScan(t, "P8.3", b, []string{"k=\x01\x02", "k=" + string(make([]byte, 20))}, 64, true)
	wantErr(t, "P8.4: Add behind the end", b.Add(key, nil), api.ErrFull)
	wantErr(t, "P8.4: Kill", b.Kill(0), 0)
	equal(t, "P8.4: the state of what is gone", f.Image()[16:17], []byte{0xf8})
	wantErr(t, "P8.4: Kill of none", b.Kill(2), api.ErrArg)
	wantErr(t, "P8.4: Kill of none", b.Kill(-1), api.ErrArg)
	wantErr(t, "P8.4: Kill once more", b.Kill(0), 0)
	wantScan(t, "P8.3", b, []string{"k:\x01\x02", "k=" + string(make([]byte, 20))}, 64, true)
}

func TestBankAddArgs(t *testing.T) {
	f := newFlash(t, 2, 65536)
	b := newBank(t, f, 0, 2)
	one := []byte{1}
	for _, c := range []struct{ key, value int }{{0, 0}, {256, 0}, {1, 65537}, {0, 1}, {100000, 100000}} {
		wantErr(t, "P8.4: Add", b.Add(make([]byte, c.key), make([]byte, c.value)), api.ErrArg)
	}
	wantErr(t, "P8.4: Add of the longest", b.Add(make([]byte, 255), make([]byte, 65536)), 0)
	wantErr(t, "P8.4: Add of the longest", b.Add(one, make([]byte, 65000)), 0)
	wantErr(t, "P8.4: Add", b.Add(one, make([]byte, 65000)), api.ErrFull)
	f.Arm(1, 0)
	f.Erase(0)
	wantErr(t, "P8.4: ErrArg goes ahead of the error of Scan", b.Add(nil, nil), api.ErrArg)
	wantErr(t, "P8.4: Add without power", b.Add(one, nil), api.ErrDead)
	wantErr(t, "P8.4: Kill without power", b.Kill(9), api.ErrDead)
	l, end, whole, e := b.Scan()
	if len(l) != 0 || end != 0 || whole || e != api.ErrDead {
		t.Errorf("P8.3: Scan without power: %d, %d, %v, %d", len(l), end, whole, e)
	}
}

func TestBankScan(t *testing.T) {
	good := rawRecord(0xfc, []byte("ab"), []byte("cd"))
	with := func(at int, x byte) []byte { b := bytes.Clone(good); b[at] = x; return b }
	for what, c := range map[string]struct {
		raw   []byte
		want  []string
		end   int
		whole bool
	}{
		"two":              {append(bytes.Clone(good), rawRecord(0xf8, []byte("x"), nil)...), []string{"ab=cd", "x:"}, 16 + 16 + 13, true},
		"begun":            {with(0, 0xfe), nil, 16, false},
		"a state 0":        {with(0, 0), nil, 16, false},
		"a state fd":       {with(0, 0xfd), nil, 16, false},
		"a state f0":       {with(0, 0xf0), nil, 16, false},
		"free":             {with(0, 0xff), nil, 16, true},
		"another mark":     {with(1, 0xa4), nil, 16, false},
		"another key":      {with(12, 'b'), nil, 16, false},
		"another value":    {with(15, 'e'), nil, 16, false},
		"another sum":      {with(8, good[8]^1), nil, 16, false},
		"another length":   {with(2, 1), nil, 16, false},
		"no key":           {rawRecord(0xfc, nil, []byte("v")), nil, 16, false},
		"behind one wrong": {append(bytes.Clone(good), with(0, 0xfe)...), []string{"ab=cd"}, 32, false},
		"wrong behind":     {append(bytes.Clone(good), 0), []string{"ab=cd"}, 32, false},
		"up to the end":    {rawRecord(0xfc, []byte("k"), make([]byte, 112-13)), []string{"k=" + string(make([]byte, 112-13))}, 128, true},
		"over the end":     {rawRecord(0xfc, []byte("k"), make([]byte, 112-12))[:112], nil, 16, false},
		"cut by the end":   {append(rawRecord(0xfc, []byte("k"), make([]byte, 112-13-5)), 0xfc), []string{"k=" + string(make([]byte, 112-13-5))}, 123, false},
	} {
		f := newFlash(t, 2, 128)
		b, _ := bank.At(f, 1, 1)
		f.Program(128+16, c.raw)
		f.Program(0, make([]byte, 128)) // what stands ahead of the bank has no say, nor has its head
		wantScan(t, "P8.3: "+what, b, c.want, c.end, c.whole)
		if !c.whole {
			wantErr(t, "P8.4: Add to a bank that is not whole, "+what, b.Add([]byte("k"), nil), api.ErrState)
		}
		wantErr(t, "P8.4: Kill, "+what, b.Kill(len(c.want)), api.ErrArg)
	}
	edges(t)
	f := newFlash(t, 2, 65536)
	b, _ := bank.At(f, 0, 2)
	f.Program(16, rawRecord(0xfc, make([]byte, 256), nil))
	wantScan(t, "P8.3: a key of 256 bytes", b, nil, 16, false)
	f.Erase(0)
	f.Program(16, rawRecord(0xfc, []byte("k"), make([]byte, 65537)))
	wantScan(t, "P8.3: a value of 65537 bytes", b, nil, 16, false)
}

// edges are records at the end of a bank behind which other sectors are.
func edges(t *testing.T) {
	t.Helper()
	for _, left := range []int{0, 1, 11, 12, 13} {
		f := newFlash(t, 3, 64)
		b, _ := bank.At(f, 1, 1)
		first := rawRecord(0xfc, []byte("k"), make([]byte, 48-13-left))
		f.Program(64+16, first)
		want := []string{"k=" + string(make([]byte, 48-13-left))}
		wantScan(t, "P8.3: room at the end", b, want, 64-left, true)
		wantErr(t, "P8.4: Add where the bank has no room", b.Add([]byte("k"), make([]byte, 40)), api.ErrFull)
		if left == 0 {
			f.Program(128, rawRecord(0xfc, []byte("l"), nil))
			wantScan(t, "P8.3: a record behind the bank", b, want, 64, true)
			continue
		}
		f.Program(128-left, rawRecord(0xfc, []byte("l"), make([]byte, 20)))
		wantScan(t, "P8.3: a record that goes on behind the bank", b, want, 64-left, false)
	}
}

func TestBankAnswersAreNewMemory(t *testing.T) {
	f := newFlash(t, 1, 64)
	b := newBank(t, f, 0, 1)
	b.Add([]byte("ab"), []byte("cd"))
	l, _, _, _ := b.Scan()
	spoil(l[0].Key)
	if string(l[0].Value) != "cd" {
		t.Errorf("R3: a record's key and value are one memory")
	}
	spoil(l[0].Value)
	wantScan(t, "R3", b, []string{"ab=cd"}, 32, true)
	other, _ := bank.At(f, 0, 1)
	wantScan(t, "P8.1: nothing else is kept of a bank", other, []string{"ab=cd"}, 32, true)
}

// Behind a loss of power at each write of an Add and a Kill the records are as P8.5 says.
func TestBankLosses(t *testing.T) {
	for n := 1; ; n++ {
		f := newFlash(t, 2, 64)
		b := newBank(t, f, 0, 2)
		b.Add([]byte("a"), []byte("1"))
		f.Arm(n, 0)
		e := b.Add([]byte("b"), []byte("22"))
		if e == 0 {
			if n != 17 {
				t.Errorf("P8.4: an Add has %d writes, want 16", n-1)
			}
			break
		}
		wantErr(t, "P8.5: Add", e, api.ErrDead)
		f.On()
		wantScan(t, "P8.5: behind a loss in an Add", b, []string{"a=1"}, 30, n == 1)
		if f.Image()[30] != 0xff && f.Image()[30] != 0xfe {
			t.Errorf("P8.4: the state of a record that is begun: %x", f.Image()[30])
		}
	}
	f := newFlash(t, 1, 64)
	b := newBank(t, f, 0, 1)
	b.Add([]byte("a"), nil)
	f.Arm(1, 0)
	wantErr(t, "P8.5: Kill", b.Kill(0), api.ErrDead)
	f.On()
	wantScan(t, "P8.5: behind a loss in a Kill", b, []string{"a="}, 29, true)
}
