package checks

import (
	"bytes"
	"encoding/binary"
	"reflect"
	"slices"
	"testing"

	"lintel/api"
	"lintel/pe"
)

func wantImage(t *testing.T, what string, b []byte, want api.Image) {
	t.Helper()
	in := roomy(b)
	got, e := pe.Parse(in)
	if len(got.Sections) == 0 {
		got.Sections = nil
	}
	if len(got.Sigs) == 0 {
		got.Sigs = nil
	}
	if e != 0 || !reflect.DeepEqual(got, want) {
		t.Errorf("%s: Parse: %+v, %d; want %+v", what, got, e, want)
	}
	untouched(t, "R3: Parse", in, b)
}

func wrongImage(t *testing.T, what string, b []byte, want api.Errno) {
	t.Helper()
	if got, e := pe.Parse(b); e != want || !reflect.DeepEqual(got, api.Image{}) {
		t.Errorf("%s: Parse: %+v, %d; want %d", what, got, e, want)
	}
}

// altered is a copy of b with a number of so many bytes at a place.
func altered(b []byte, at, size int, x uint64) []byte {
	eight := binary.LittleEndian.AppendUint64(nil, x)
	return slices.Concat(b[:at], eight[:size], b[at+size:])
}

func TestPePlain(t *testing.T) {
	f := plainImage()
	want := api.Image{Check: 152, Dir: 216, Headers: 400, Sections: []api.Section{{Off: 400, Size: 8}}}
	wantImage(t, "P16.2", f.bytes(), want)
	f.fill = 0xcc
	f.dirs = 5
	wantImage(t, "P16.2: other bytes have no say", f.bytes(), want)
	plus := plainImage()
	plus.plus, plus.pe, plus.dirs = true, 72, 6
	wantImage(t, "P16.2: Plus", plus.bytes(), api.Image{Plus: true, Check: 160, Dir: 240, Headers: 400, Sections: []api.Section{{Off: 400, Size: 8}}})
	sigs := plainImage([]byte{1}, bytes.Repeat([]byte{2}, 8), bytes.Repeat([]byte{3}, 17))
	want.Table, want.Length, want.Sigs = 416, 64, sigs.sigs
	wantImage(t, "P16.4", sigs.bytes(), want)
	b := sigs.bytes()
	for n := range b {
		if n > 411 || n < 100 || n%9 == 0 {
			wrongImage(t, "what follows: an image with a table that is cut", b[:n], api.ErrForm)
		}
	}
	wrongImage(t, "what follows: an image with a table, and something behind", append(bytes.Clone(b), 0), api.ErrForm)
	wrongImage(t, "what follows: an image with a table, and a row behind", append(bytes.Clone(b), row([]byte{1})...), api.ErrForm)
	got, _ := pe.Parse(b)
	apart(t, "R3: Parse", b, got.Sigs[0], got.Sigs[1], got.Sigs[2])
}

func TestPeSize(t *testing.T) {
	wrongImage(t, "P16.1: nothing", nil, api.ErrForm)
	wrongImage(t, "P16.1: `MZ` and noughts", append([]byte("MZ"), make([]byte, 62)...), api.ErrForm)
	wrongImage(t, "P16.1: `M`", []byte("M"), api.ErrForm)
	wrongImage(t, "P16.1: 2^24 + 1 bytes", make([]byte, 1<<24+1), api.ErrBig)
	f := plainImage()
	f.length = 1 << 24
	if _, e := pe.Parse(f.bytes()); e != 0 {
		t.Errorf("P16.1: 2^24 bytes: %d", e)
	}
	f.length++
	wrongImage(t, "P16.1: 2^24 + 1 bytes", f.bytes(), api.ErrBig)
}

func TestPeHeaders(t *testing.T) {
	f := plainImage()
	b := f.bytes()
	for what, x := range map[string][]byte{
		"no MZ":               altered(b, 0, 1, 'm'),
		"no Z":                altered(b, 1, 1, 'z'),
		"PE at 63":            slices.Concat(altered(b, 60, 4, 63)[:63], b[64:]),
		"PE at 60":            altered(b, 60, 4, 60),
		"PE at 2^32 - 1":      altered(b, 60, 4, 1<<32-1),
		"PE at the end":       altered(b, 60, 4, 411),
		"PE behind the end":   altered(b, 60, 4, 412),
		"no P":                altered(b, 64, 1, 'p'),
		"no noughts":          altered(b, 67, 1, 1),
		"no sections":         altered(b, 70, 2, 0),
		"97 sections":         altered(b, 70, 2, 97),
		"another magic":       altered(b, 88, 2, 0x10c),
		"a magic of Plus":     altered(b, 88, 2, 0x20b),
		"a magic 107":         altered(b, 88, 2, 0x107),
		"four directories":    altered(altered(b, 180, 4, 4), 84, 2, 128),
		"six directories":     altered(b, 180, 4, 6),
		"2^29 directories":    altered(b, 180, 4, 1<<29+5),
		"a longer header":     altered(b, 84, 2, 144),
		"a shorter header":    altered(b, 84, 2, 135),
		"headers of no room":  altered(b, 148, 4, 263),
		"headers of 2^32 - 1": altered(b, 148, 4, 1<<32-1),
		"headers of one more": altered(b, 148, 4, 413),
	} {
		wrongImage(t, "P16.2: "+what, x, api.ErrForm)
	}
	least := imageForm{pe: 64, dirs: 5, count: 1, headers: 264, sections: [][2]int{{264, 1}}, length: 265}
	wantImage(t, "P16.2: the least", least.bytes(), api.Image{Check: 152, Dir: 216, Headers: 264, Sections: []api.Section{{Off: 264, Size: 1}}})
	bare := imageForm{pe: 64, dirs: 5, count: 1, headers: 264, length: 264}
	wantImage(t, "P16.3: no section has bytes", bare.bytes(), api.Image{Check: 152, Dir: 216, Headers: 264})
	for n := range 264 {
		wrongImage(t, "P16.2: cut", bare.bytes()[:n], api.ErrForm)
	}
	for _, f := range []imageForm{{pe: 64, dirs: 5, count: 1, headers: 263, sections: [][2]int{{263, 41}}, length: 304}, {pe: 64, dirs: 5, count: 2, headers: 303, length: 304}, {pe: 64, dirs: 5, count: 1, headers: 263, length: 304}} {
		wrongImage(t, "P16.2: headers without room for the sections' table", f.bytes(), api.ErrForm)
	}
	many := imageForm{pe: 64, dirs: 16, count: 96, headers: 4200, length: 4200 + 960, fill: 9}
	want := api.Image{Check: 152, Dir: 216, Headers: 4200}
	for i := range 96 {
		many.sections = append(many.sections, [2]int{4200 + 10*(95-i), 10})
		want.Sections = append(want.Sections, api.Section{Off: uint32(4200 + 10*(95-i)), Size: 10})
	}
	wantImage(t, "P16.3: 96 sections", many.bytes(), want)
	many.count = 97
	wrongImage(t, "P16.2: 97 sections", many.bytes(), api.ErrForm)
}

func TestPeSections(t *testing.T) {
	for what, c := range map[string]struct {
		sections [][2]int
		kept     []api.Section
		right    bool
	}{
		"in order":          {[][2]int{{400, 8}, {408, 4}}, []api.Section{{Off: 400, Size: 8}, {Off: 408, Size: 4}}, true},
		"the other way":     {[][2]int{{408, 4}, {400, 8}}, []api.Section{{Off: 408, Size: 4}, {Off: 400, Size: 8}}, true},
		"some without":      {[][2]int{{1, 0}, {400, 8}, {1<<32 - 1, 0}, {408, 1}}, []api.Section{{Off: 400, Size: 8}, {Off: 408, Size: 1}}, true},
		"up to the end":     {[][2]int{{400, 12}}, []api.Section{{Off: 400, Size: 12}}, true},
		"none with bytes":   {[][2]int{{0, 0}}, nil, true},
		"a gap at first":    {[][2]int{{401, 8}}, nil, false},
		"in the headers":    {[][2]int{{399, 8}}, nil, false},
		"a gap":             {[][2]int{{400, 4}, {405, 2}}, nil, false},
		"overlapping":       {[][2]int{{400, 4}, {403, 2}}, nil, false},
		"the same twice":    {[][2]int{{400, 4}, {400, 4}}, nil, false},
		"behind the end":    {[][2]int{{400, 13}}, nil, false},
		"that would wrap":   {[][2]int{{400, 8}, {408, 1<<32 - 8}}, nil, false},
		"of 2^32 - 1 bytes": {[][2]int{{400, 1<<32 - 1}}, nil, false},
		"that come round":   {[][2]int{{400, 1<<32 - 200}, {200, 200}}, nil, false},
	} {
		f := plainImage()
		f.count, f.sections = len(c.sections), c.sections
		if !c.right {
			wrongImage(t, "P16.3: sections "+what, f.bytes(), api.ErrForm)
			continue
		}
		wantImage(t, "P16.3: sections "+what, f.bytes(), api.Image{Check: 152, Dir: 216, Headers: 400, Sections: c.kept})
	}
}

func TestPeTable(t *testing.T) {
	f := plainImage([]byte{1, 2, 3}, []byte{4})
	b := f.bytes() // the table from 416 on: rows of 16 bytes each
	for what, x := range map[string][]byte{
		"no length":             altered(b, f.dir()+4, 4, 0),
		"no place":              altered(b, f.dir(), 4, 0),
		"a place of no 8":       altered(altered(b, f.dir(), 4, 412), f.dir()+4, 4, 36),
		"a place ahead":         altered(altered(b, f.dir(), 4, 400), f.dir()+4, 4, 48),
		"a length too short":    altered(b, f.dir()+4, 4, 31),
		"a length too long":     altered(b, f.dir()+4, 4, 33),
		"one row alone":         altered(b, f.dir()+4, 4, 16),
		"a length of 2^32 - 1":  altered(b, f.dir()+4, 4, 1<<32-1),
		"a sum that wraps":      altered(altered(b, f.dir(), 4, 1<<32-8), f.dir()+4, 4, uint64(len(b)+8)),
		"a row of 8 bytes":      altered(b, 416, 4, 8),
		"a row of none":         altered(b, 416, 4, 0),
		"a row of 33":           altered(b, 416, 4, 33),
		"a row of 2^32 - 1":     altered(b, 416, 4, 1<<32-1),
		"another revision":      altered(b, 420, 2, 0x100),
		"another type":          altered(b, 422, 2, 1),
		"no noughts behind":     altered(b, 416+11, 1, 1),
		"no noughts at the end": altered(b, 432+15, 1, 1),
	} {
		wrongImage(t, "P16.4: "+what, x, api.ErrForm)
	}
	touching := plainImage([]byte{9})
	touching.length, touching.sections = 416, [][2]int{{400, 16}}
	wantImage(t, "P16.4: a table right behind the section", touching.bytes(), api.Image{Check: 152, Dir: 216, Headers: 400, Sections: []api.Section{{Off: 400, Size: 16}}, Table: 416, Length: 16, Sigs: [][]byte{{9}}})
	bare := imageForm{pe: 64, dirs: 5, count: 1, headers: 264, length: 264, sigs: [][]byte{{9}}}
	wantImage(t, "P16.4: a table right behind the headers", bare.bytes(), api.Image{Check: 152, Dir: 216, Headers: 264, Table: 264, Length: 16, Sigs: [][]byte{{9}}})
	bare.headers, bare.length = 272, 272
	wrongImage(t, "P16.4: a table in the headers", altered(altered(bare.bytes()[:280], bare.dir(), 4, 264), bare.dir()+4, 4, 16), api.ErrForm)
	wrongImage(t, "P16.4: no length, at the end", altered(b, f.dir(), 8, uint64(len(b))), api.ErrForm)
	odd := altered(plainImage().bytes(), f.dir(), 8, 412|16<<32)
	wrongImage(t, "P16.4: right rows at a place of no 8", append(odd, row([]byte{9})...), api.ErrForm)
	over := imageForm{pe: 64, dirs: 5, count: 1, headers: 400, sections: [][2]int{{400, 16}}, length: 400}
	wrongImage(t, "P16.4: right rows in a section", altered(append(over.bytes(), row([]byte{9})...), f.dir(), 8, 400|16<<32), api.ErrForm)
	eight := plainImage(slices.Repeat([][]byte{{7, 7}}, 8)...)
	if x, e := pe.Parse(eight.bytes()); e != 0 || len(x.Sigs) != 8 {
		t.Errorf("P16.4: eight rows: %d, %d", len(x.Sigs), e)
	}
	nine := plainImage(slices.Repeat([][]byte{{7, 7}}, 9)...).bytes()
	wrongImage(t, "P16.4: nine rows", nine, api.ErrBig)
	wrongImage(t, "P16.4: nine rows, the last one wrong", altered(nine, len(nine)-1, 1, 1), api.ErrForm)
	wrongImage(t, "P16.4: nine rows, the last one's length wrong", altered(nine, len(nine)-16, 4, 8), api.ErrForm)
}

func TestPeTurned(t *testing.T) {
	r := random(21)
	f := plainImage([]byte{1, 2, 3}, []byte{4})
	b := f.bytes()
	for i := range b {
		for range 20 {
			x := bytes.Clone(b)
			x[i] ^= byte(1 + r.Intn(255))
			x[r.Intn(len(x))] = byte(r.Intn(256))
			pe.Parse(x)
		}
	}
}
