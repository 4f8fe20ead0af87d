package checks

import (
	"bytes"
	"encoding/binary"
	"fmt"
	"math/rand"
	"slices"
	"testing"

	"lintel/api"
	"lintel/option"
)

// optionBytes are an option's bytes, written apart from the program.
func optionBytes(attr uint32, label string, path, data []byte) []byte {
	b := binary.LittleEndian.AppendUint32(nil, attr)
	b = binary.LittleEndian.AppendUint16(b, uint16(len(path)))
	for i := range len(label) {
		b = append(b, label[i], 0)
	}
	return slices.Concat(b, []byte{0, 0}, path, data)
}

func TestOptionExample(t *testing.T) {
	path, data := roomy([]byte{7, 8}), roomy([]byte{9})
	want := unhex("01000000 0200 4100 0000 0708 09")
	b, e := option.Write(api.Option{Attr: 1, Label: "A", Path: path, Data: data})
	equal(t, "P25.1: Write", b, want)
	wantErr(t, "P25.1: Write", e, 0)
	untouched(t, "R3: Write", path, []byte{7, 8})
	untouched(t, "R3: Write", data, []byte{9})
	in := roomy(want)
	o, e := option.Read(in)
	if e != 0 || fmt.Sprint(o) != fmt.Sprint(api.Option{Attr: 1, Label: "A", Path: []byte{7, 8}, Data: []byte{9}}) {
		t.Errorf("P25.2: Read: %v, %d", o, e)
	}
	apart(t, "R3: Read", in, o.Path, o.Data)
	untouched(t, "R3: Read", in, want)
	for n := range want[:12] {
		o, e := option.Read(want[:n])
		if e != api.ErrForm || fmt.Sprint(o) != fmt.Sprint(api.Option{}) {
			t.Errorf("P25.2: Read of the first %d bytes: %v, %d", n, o, e)
		}
	}
	o, e = option.Read(unhex("01000000 0000 0000"))
	if e != 0 || fmt.Sprint(o) != fmt.Sprint(api.Option{Attr: 1}) {
		t.Errorf("P25.2: Read of the least: %v, %d", o, e)
	}
}

func TestOptionWrite(t *testing.T) {
	for _, label := range []string{"é", "a\x00", "\x00", "a\x80b", "\xff", "Aé"} {
		b, e := option.Write(api.Option{Label: label})
		if len(b) != 0 || e != api.ErrArg {
			t.Errorf("P25.1: Write of %q: %x, %d", label, b, e)
		}
	}
	for _, label := range []string{"", "\x01\x7f", "a label", string(bytes.Repeat([]byte{'x'}, 1000))} {
		b, e := option.Write(api.Option{Attr: 1<<32 - 1, Label: label, Path: make([]byte, 65535), Data: []byte{1}})
		equal(t, "P25.1: Write", b, optionBytes(1<<32-1, label, make([]byte, 65535), []byte{1}))
		wantErr(t, "P25.1: Write", e, 0)
	}
	b, e := option.Write(api.Option{Path: make([]byte, 65536)})
	if len(b) != 0 || e != api.ErrArg {
		t.Errorf("P25.1: Write of a path of 65536 bytes: %d", e)
	}
}

func TestOptionRead(t *testing.T) {
	for what, c := range map[string]struct {
		b  string
		ok bool
	}{
		"no end": {"01000000 0000 4100", false}, "an end at an odd place": {"01000000 0000 4100 00", false}, "a letter that is not narrow": {"01000000 0000 4101 0000", false}, "a high letter": {"01000000 0000 8000 0000", false}, "a 0 below": {"01000000 0000 0041 0000", false},
		"noughts at an odd distance": {"01000000 0000 4100 0041 0000", false}, "a path too short": {"01000000 0300 0000 0102", false}, "a path up to the end": {"01000000 0300 0000 010203", true}, "a path of noughts": {"01000000 0200 4100 0000 0000", true}, "data of noughts": {"00000000 0000 0000 0000", true},
	} {
		o, e := option.Read(unhex(c.b))
		if (e == 0) != c.ok || e != 0 && (e != api.ErrForm || fmt.Sprint(o) != fmt.Sprint(api.Option{})) {
			t.Errorf("P25.2: Read, %s: %v, %d", what, o, e)
		}
	}
}

func someOption(r *rand.Rand) api.Option {
	label := make([]byte, r.Intn(5))
	for i := range label {
		label[i] = byte(1 + r.Intn(127))
	}
	return api.Option{Attr: r.Uint32(), Label: string(label), Path: make([]byte, r.Intn(4)), Data: someBytes(r, r.Intn(4))}
}

func TestOptionFollows(t *testing.T) {
	r := random(28)
	for range 3000 {
		o := someOption(r)
		b, e := option.Write(o)
		got, e2 := option.Read(b)
		if e != 0 || e2 != 0 || fmt.Sprint(got) != fmt.Sprint(o) {
			t.Fatalf("what follows: Read of what was written: %v, %d; %v", got, e2, o)
		}
		some := someBytes(r, 4+r.Intn(12))
		some[len(some)/2] = 0
		for i := range some {
			some[i] &= byte(r.Intn(4))
		}
		if o, e := option.Read(some); e == 0 {
			again, _ := option.Write(o)
			equal(t, "what follows: Write of what was read", again, some)
		}
	}
}
