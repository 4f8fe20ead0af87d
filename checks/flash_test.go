package checks

import (
	"bytes"
	"math"
	"testing"

	"lintel/api"
	"lintel/flash"
)

// newFlash is a flash that must be one.
func newFlash(t *testing.T, sectors, size int) *flash.Flash {
	t.Helper()
	f, e := flash.New(sectors, size)
	if f == nil || e != 0 {
		t.Fatalf("P7.1: New(%d, %d): %d", sectors, size, e)
	}
	return f
}

// wantErr fails the test unless both errors are the same.
func wantErr(t *testing.T, what string, got, want api.Errno) {
	t.Helper()
	if got != want {
		t.Errorf("%s: %d, want %d", what, got, want)
	}
}

func ff(n int) []byte { return bytes.Repeat([]byte{0xff}, n) }

func TestFlashNew(t *testing.T) {
	for _, c := range [][2]int{{1, 16}, {64, 16}, {1, 65536}, {64, 65536}, {3, 17}} {
		f := newFlash(t, c[0], c[1])
		if f.Sectors() != c[0] || f.Size() != c[1] || f.Dead() || f.Writes() != 0 {
			t.Errorf("P7.1: New(%d, %d): %d, %d, %v, %d", c[0], c[1], f.Sectors(), f.Size(), f.Dead(), f.Writes())
		}
		equal(t, "P7.1: the bytes of a new flash", f.Image(), ff(c[0]*c[1]))
	}
	for _, c := range [][2]int{{0, 16}, {-1, 16}, {65, 16}, {1, 15}, {1, 0}, {1, -16}, {1, 65537}, {math.MaxInt, math.MaxInt}, {math.MinInt, 16}} {
		if f, e := flash.New(c[0], c[1]); f != nil || e != api.ErrArg {
			t.Errorf("P7.1: New(%d, %d): %d", c[0], c[1], e)
		}
	}
}

func TestFlashNone(t *testing.T) {
	var f *flash.Flash
	_, e := f.Read(-1, -1)
	wantErr(t, "R4: Read", e, api.ErrNil)
	wantErr(t, "R4: Program", f.Program(-1, nil), api.ErrNil)
	wantErr(t, "R4: Erase", f.Erase(0), api.ErrNil)
	wantErr(t, "R4: Arm", f.Arm(-1, 0), api.ErrNil)
	wantErr(t, "R4: On", f.On(), api.ErrNil)
	if f.Sectors() != 0 || f.Size() != 0 || f.Dead() || f.Writes() != 0 || len(f.Image()) != 0 {
		t.Errorf("R4: something of no flash")
	}
}

func TestFlashRead(t *testing.T) {
	f := newFlash(t, 2, 16)
	f.Program(0, []byte{1, 2, 3})
	f.Program(31, []byte{4})
	for _, c := range []struct {
		at, n int
		want  []byte
		e     api.Errno
	}{
		{0, 3, []byte{1, 2, 3}, 0}, {1, 1, []byte{2}, 0}, {31, 1, []byte{4}, 0}, {32, 0, nil, 0}, {0, 0, nil, 0},
		{33, 0, nil, api.ErrArg}, {31, 2, nil, api.ErrArg}, {-1, 1, nil, api.ErrArg}, {0, -1, nil, api.ErrArg}, {0, 33, nil, api.ErrArg},
		{1, math.MaxInt, nil, api.ErrArg}, {math.MaxInt, math.MaxInt, nil, api.ErrArg}, {math.MinInt, 1, nil, api.ErrArg},
	} {
		got, e := f.Read(c.at, c.n)
		equal(t, "P7.2: Read", got, c.want)
		wantErr(t, "P7.2: Read", e, c.e)
		spoil(got)
	}
	spoil(f.Image())
	got, _ := f.Read(0, 32)
	equal(t, "R3: what is read is new memory", got, append(append([]byte{1, 2, 3}, ff(28)...), 4))
}

func TestFlashProgramAndErase(t *testing.T) {
	f := newFlash(t, 2, 16)
	b := roomy([]byte{0x0f, 0xf0})
	wantErr(t, "P7.3: Program", f.Program(3, b), 0)
	untouched(t, "R3: Program", b, []byte{0x0f, 0xf0})
	spoil(b)
	got, _ := f.Read(2, 4)
	equal(t, "P7.3: Program", got, []byte{0xff, 0x0f, 0xf0, 0xff})
	wantErr(t, "P7.3: Program", f.Program(3, []byte{0xf8}), 0)
	got, _ = f.Read(3, 1)
	equal(t, "P7.3: Program clears bits alone", got, []byte{8})
	wantErr(t, "P7.3: Program over the edge of a sector", f.Program(15, []byte{1, 2}), 0)
	if f.Writes() != 5 {
		t.Errorf("P7.4: Writes: %d, want 5", f.Writes())
	}
	for _, at := range []int{-1, 32, 31, math.MaxInt, math.MinInt} {
		wantErr(t, "P7.3: Program outside", f.Program(at, []byte{0, 0}), api.ErrArg)
	}
	wantErr(t, "P7.3: Program of a byte behind the end", f.Program(32, []byte{0}), api.ErrArg)
	wantErr(t, "P7.3: Program of nothing", f.Program(0, nil), 0)
	wantErr(t, "P7.3: Program of nothing behind the end: no byte lies there", f.Program(40, nil), 0)
	wantErr(t, "P7.3: Program of nothing below 0", f.Program(-1, nil), api.ErrArg)
	wantErr(t, "P7.3: Program of too much", f.Program(0, make([]byte, 33)), api.ErrArg)
	if f.Writes() != 5 {
		t.Errorf("R2: something was written with an error: %d", f.Writes())
	}
	for _, s := range []int{-1, 2, math.MaxInt, math.MinInt} {
		wantErr(t, "P7.3: Erase of none", f.Erase(s), api.ErrArg)
	}
	wantErr(t, "P7.3: Erase", f.Erase(0), 0)
	equal(t, "P7.3: Erase", f.Image(), append(append(ff(16), 2), ff(15)...))
	wantErr(t, "P7.3: Program of all", f.Program(0, make([]byte, 32)), 0)
	wantErr(t, "P7.3: Erase", f.Erase(1), 0)
	equal(t, "P7.3: Erase", f.Image(), append(make([]byte, 16), ff(16)...))
}

func TestFlashLosses(t *testing.T) {
	f := newFlash(t, 2, 16)
	f.Program(3, []byte{0x08, 0xf0})
	wantErr(t, "P7.4: Arm", f.Arm(2, 5), 0)
	before := f.Writes()
	wantErr(t, "P7.3: Program without power", f.Program(0, []byte{1, 2, 3}), api.ErrDead)
	if !f.Dead() || f.Writes() != before+1 {
		t.Errorf("P7.4: Dead: %v, Writes: %d more", f.Dead(), f.Writes()-before)
	}
	_, e := f.Read(-1, 0)
	wantErr(t, "P7.2: Read without power", e, api.ErrDead)
	wantErr(t, "P7.3: Program without power", f.Program(-1, nil), api.ErrDead)
	wantErr(t, "P7.3: Erase without power", f.Erase(-1), api.ErrDead)
	wantErr(t, "P7.4: Arm without power", f.Arm(-1, 0), api.ErrDead)
	equal(t, "P7.2: Image without power", f.Image()[:5], []byte{1, 0xff, 0xff, 8, 0xf0})
	wantErr(t, "P7.4: On", f.On(), 0)
	wantErr(t, "P7.4: On once more", f.On(), api.ErrState)
	got, e := f.Read(0, 3)
	equal(t, "P7.5: what is left of a Program", got, []byte{1, 0xff, 0xff})
	wantErr(t, "P7.4: behind On it is not armed", f.Program(0, make([]byte, 3)), 0)
	for part, want := range map[int]int{0: 0, 4: 4, 16: 16, 17: 16, math.MaxInt: 16} {
		f.Program(0, make([]byte, 16))
		wantErr(t, "P7.4: Arm", f.Arm(1, part), 0)
		before := f.Writes()
		wantErr(t, "P7.3: Erase without power", f.Erase(0), api.ErrDead)
		if f.Writes() != before {
			t.Errorf("P7.4: an erasure that is cut counts")
		}
		equal(t, "P7.3: what is left of an Erase", f.Image()[:16], append(ff(want), make([]byte, 16-want)...))
		f.On()
	}
}

func TestFlashArm(t *testing.T) {
	f := newFlash(t, 2, 16)
	wantErr(t, "P7.4: Arm below 0", f.Arm(-1, 0), api.ErrArg)
	wantErr(t, "P7.4: Arm of a part below 0", f.Arm(1, -1), api.ErrArg)
	wantErr(t, "P7.4: a wrong Arm does nothing", f.Program(0, []byte{0}), 0)
	f.Arm(1, 0)
	wantErr(t, "P7.4: Arm of 0", f.Arm(0, 3), 0)
	wantErr(t, "P7.4: it is not armed", f.Program(0, []byte{0, 0}), 0)
	f.Arm(1, 0)
	f.Arm(3, 0)
	wantErr(t, "P7.4: the last Arm counts", f.Program(0, []byte{0, 0}), 0)
	wantErr(t, "P7.4: the third write", f.Erase(0), api.ErrDead)
	f.On()
	f.Arm(2, 0)
	f.Program(0, nil)
	f.Erase(9)
	f.Read(0, 3)
	wantErr(t, "P7.4: erasures count", f.Erase(0), 0)
	wantErr(t, "P7.4: erasures count", f.Erase(0), api.ErrDead)
	wantErr(t, "P7.4: On below 0", f.On(), 0)
	if f.Writes() != 6 {
		t.Errorf("P7.4: Writes: %d, want 6", f.Writes())
	}
}

func TestFlashFollows(t *testing.T) {
	r := random(12)
	f := newFlash(t, 4, 32)
	for range 3000 {
		old := f.Image()
		if r.Intn(20) == 0 {
			f.Erase(r.Intn(4))
			continue
		}
		at, b := r.Intn(120), someBytes(r, r.Intn(8))
		f.Program(at, b)
		once := f.Image()
		f.Program(at, b)
		equal(t, "P7.5: to program twice is to program once", f.Image(), once)
		for i := range old {
			want := old[i]
			if i >= at && i < at+len(b) {
				want &= b[i-at]
			}
			if once[i] != want {
				t.Fatalf("P7.3: the byte %d is %x, want %x", i, once[i], want)
			}
		}
	}
}
