package checks

import (
	"bytes"
	"crypto/sha256"
	"fmt"
	"math/rand"
	"slices"
	"testing"

	"lintel/api"
	"lintel/measure"
	"lintel/pe"
)

func wantRanges(t *testing.T, what string, b []byte, want ...[2]int) {
	t.Helper()
	in := roomy(b)
	got, e := measure.Ranges(in)
	if e != 0 || !slices.Equal(got, want) {
		t.Errorf("%s: Ranges: %d, %d; want %d", what, got, e, want)
	}
	var hashed []byte
	for _, r := range want {
		hashed = append(hashed, b[r[0]:r[1]]...)
	}
	digest, x, e := measure.Digest(in)
	read, _ := pe.Parse(b)
	if e != 0 || digest != sha256.Sum256(hashed) || fmt.Sprint(x) != fmt.Sprint(read) {
		t.Errorf("%s: Digest: %x, %v, %d", what, digest, x, e)
	}
	untouched(t, "R3: Ranges, Digest", in, b)
}

func TestMeasureRanges(t *testing.T) {
	f := plainImage()
	f.fill = 0x33
	ahead := [][2]int{{0, 152}, {156, 216}, {224, 400}}
	wantRanges(t, "P17.1: something behind", f.bytes(), append(ahead, [2]int{400, 408}, [2]int{408, 412})...)
	f.length = 408
	wantRanges(t, "P17.1: nothing behind", f.bytes(), append(ahead, [2]int{400, 408})...)
	f.sigs = [][]byte{{1}}
	wantRanges(t, "P17.1: a table right behind", f.bytes(), append(ahead, [2]int{400, 408})...)
	f.length = 412
	wantRanges(t, "P17.1: something ahead of a table", f.bytes(), append(ahead, [2]int{400, 408}, [2]int{408, 416})...)
	f = imageForm{pe: 64, dirs: 5, count: 1, headers: 300, length: 300}
	wantRanges(t, "P17.1: no section", f.bytes(), [2]int{0, 152}, [2]int{156, 216}, [2]int{224, 300})
	f.length = 304
	wantRanges(t, "P17.1: no section, something behind", f.bytes(), [2]int{0, 152}, [2]int{156, 216}, [2]int{224, 300}, [2]int{300, 304})
	f.plus, f.count, f.headers, f.length, f.sections = true, 4, 408, 450, [][2]int{{430, 10}, {7, 0}, {408, 12}, {420, 10}}
	wantRanges(t, "P17.1: sections by where they lie", f.bytes(), [2]int{0, 152}, [2]int{156, 232}, [2]int{240, 408}, [2]int{408, 420}, [2]int{420, 430}, [2]int{430, 440}, [2]int{440, 450})
}

func TestMeasureErrors(t *testing.T) {
	nine := plainImage(slices.Repeat([][]byte{{7, 7}}, 9)...).bytes()
	for _, c := range []struct {
		b    []byte
		want api.Errno
	}{{nil, api.ErrForm}, {[]byte("MZ"), api.ErrForm}, {nine, api.ErrBig}, {make([]byte, 1<<24+1), api.ErrBig}} {
		got, e := measure.Ranges(c.b)
		if len(got) != 0 || e != c.want {
			t.Errorf("P17.1: Ranges: %d, %d; want %d", got, e, c.want)
		}
		digest, x, e := measure.Digest(c.b)
		if digest != [32]byte{} || fmt.Sprint(x) != fmt.Sprint(api.Image{}) || e != c.want {
			t.Errorf("P17.2: Digest: %x, %v, %d; want %d", digest, x, e, c.want)
		}
	}
}

func someImage(r *rand.Rand) imageForm {
	f := imageForm{pe: 64 + r.Intn(20), plus: r.Intn(2) == 0, dirs: 5 + r.Intn(4), count: 1 + r.Intn(4), fill: byte(r.Intn(256))}
	f.headers = f.table() + 40*f.count + r.Intn(20)
	at := f.headers
	for range f.count {
		n := r.Intn(3) * r.Intn(20)
		f.sections = append(f.sections, [2]int{at, n})
		at += n
	}
	r.Shuffle(f.count, func(i, j int) { f.sections[i], f.sections[j] = f.sections[j], f.sections[i] })
	f.length = at + r.Intn(2)*r.Intn(20)
	for range r.Intn(3) {
		f.sigs = append(f.sigs, someBytes(r, 1+r.Intn(30)))
	}
	return f
}

// The ranges have each byte once but those of the three places, and these alone have no say.
func TestMeasureFollows(t *testing.T) {
	r := random(22)
	for range 300 {
		f := someImage(r)
		b := f.bytes()
		x, e := pe.Parse(b)
		if e != 0 {
			t.Fatalf("P16.1: %d of %+v", e, f)
		}
		table := len(b)
		if x.Length > 0 {
			table = int(x.Table)
		}
		got, _ := measure.Ranges(b)
		times := make([]int, len(b))
		for i, g := range got {
			if g[0] >= g[1] || i > 0 && g[0] < got[i-1][1] {
				t.Fatalf("what follows: the ranges do not rise: %d", got)
			}
			for at := g[0]; at < g[1]; at++ {
				times[at]++
			}
		}
		for at, n := range times {
			out := at >= x.Check && at < x.Check+4 || at >= x.Dir && at < x.Dir+8 || at >= table
			if n == 1 == out || n > 1 {
				t.Fatalf("what follows: the byte %d is hashed %d times", at, n)
			}
		}
		digest, _, _ := measure.Digest(b)
		at := r.Intn(len(b))
		turned := bytes.Clone(b)
		turned[at] ^= 1
		if other, _, e := measure.Digest(turned); e == 0 && (other == digest) != (times[at] == 0) {
			t.Fatalf("what follows: the byte %d has a say: %v", at, other != digest)
		}
		f.sigs = nil
		f.length = table
		alone := f.bytes()
		copy(alone[len(alone)-min(8, table-int(x.Headers)):], b[table-min(8, table-int(x.Headers)):table])
		if other, _, _ := measure.Digest(alone); other != digest {
			t.Fatalf("what follows: signatures turn the digest")
		}
	}
}
