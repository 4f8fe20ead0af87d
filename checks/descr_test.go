package checks

import (
	"bytes"
	"encoding/binary"
	"slices"
	"testing"

	"lintel/api"
	"lintel/descr"
	"lintel/stamp"
)

var (
	someMoment = api.Time{Year: 2024, Month: 1, Day: 2, Hour: 3, Minute: 4, Second: 5}
	descrMarks = unhex("0002 f10e 9dd2af4adf68ee498aa9347d375665a7")
)

// described is a signed value's bytes, written apart from the program.
func described(t api.Time, blob, data []byte) []byte {
	b := binary.LittleEndian.AppendUint16(nil, t.Year)
	b = append(b, t.Month, t.Day, t.Hour, t.Minute, t.Second)
	b = append(b, make([]byte, 9)...)
	b = binary.LittleEndian.AppendUint32(b, uint32(24+len(blob)))
	return slices.Concat(b, descrMarks, blob, data)
}

func TestDescrExample(t *testing.T) {
	want := unhex("e8070102030405 000000000000000000 19000000 0002 f10e 9dd2af4adf68ee498aa9347d375665a7 aa bb")
	blob, data := roomy([]byte{0xaa}), roomy([]byte{0xbb})
	b, e := descr.Write(someMoment, blob, data)
	equal(t, "P20.1: Write", b, want)
	wantErr(t, "P20.1: Write", e, 0)
	untouched(t, "R3: Write", blob, []byte{0xaa})
	untouched(t, "R3: Write", data, []byte{0xbb})
	in := roomy(want)
	when, blob, data, e := descr.Read(in)
	if when != someMoment || string(blob) != "\xaa" || string(data) != "\xbb" || e != 0 {
		t.Errorf("P20.1: Read: %v, %x, %x, %d", when, blob, data, e)
	}
	apart(t, "R3: Read", in, blob, data)
	untouched(t, "R3: Read", in, want)
	when, blob, data, e = descr.Read(want[:len(want)-1])
	if when != someMoment || string(blob) != "\xaa" || len(data) != 0 || e != 0 {
		t.Errorf("P20.1: Read without data: %v, %x, %x, %d", when, blob, data, e)
	}
}

func TestDescrWrong(t *testing.T) {
	good := described(someMoment, []byte{1, 2}, []byte{3})
	wrong := map[string][]byte{
		"nothing": nil, "the zero time": described(api.Time{}, []byte{1}, nil), "no time": described(api.Time{Year: 2023, Month: 2, Day: 29}, []byte{1}, nil), "a time with a tail": altered(good, 15, 1, 1),
		"no blob": described(someMoment, nil, nil), "no blob, but data": described(someMoment, nil, []byte{1, 2}), "a blob of 65537": described(someMoment, make([]byte, 65537), nil), "a length of 0": altered(good, 16, 4, 0), "a length of 23": altered(good, 16, 4, 23),
		"a length of 2^32-1": altered(good, 16, 4, 1<<32-1), "a length of one more": altered(good, 16, 4, 28), "a great length": altered(described(someMoment, make([]byte, 65536), make([]byte, 9)), 16, 4, 24+65537),
	}
	for i := 20; i < 40; i++ {
		wrong["another mark"] = altered(good, i, 1, uint64(good[i]^1))
		if _, _, _, e := descr.Read(wrong["another mark"]); e != api.ErrForm {
			t.Errorf("P20.1: Read of another mark at %d: %d", i, e)
		}
	}
	for what, b := range wrong {
		if when, blob, data, e := descr.Read(b); when != (api.Time{}) || len(blob)+len(data) != 0 || e != api.ErrForm {
			t.Errorf("P20.1: Read, %s: %v, %x, %x, %d", what, when, blob, data, e)
		}
	}
	for n := range good[:42] {
		if _, _, _, e := descr.Read(good[:n]); e != api.ErrForm {
			t.Errorf("P20.1: Read of %d bytes: %d", n, e)
		}
	}
	for what, c := range map[string]struct {
		t    api.Time
		blob []byte
	}{
		"the zero time": {api.Time{}, []byte{1}}, "no time": {api.Time{Year: 2023, Month: 2, Day: 29}, []byte{1}}, "no blob": {someMoment, nil}, "a blob of 65537": {someMoment, make([]byte, 65537)},
	} {
		if b, e := descr.Write(c.t, c.blob, []byte{1}); len(b) != 0 || e != api.ErrArg {
			t.Errorf("P20.1: Write, %s: %x, %d", what, b, e)
		}
	}
}

func TestDescrText(t *testing.T) {
	data := roomy([]byte{9, 8})
	got := descr.Text("db", security, 0x01020367, someMoment, data)
	equal(t, "P20.2: Text", got, slices.Concat(unhex("64006200"), security[:], unhex("67030201"), stamp.Write(someMoment), []byte{9, 8}))
	untouched(t, "R3: Text", data, []byte{9, 8})
	equal(t, "P20.2: Text of nothing", descr.Text("", api.Guid{}, 0, api.Time{}, nil), make([]byte, 36))
	equal(t, "P20.2: Text of a name that is not wide", descr.Text("é", global, 1, api.Time{}, nil), slices.Concat(global[:], unhex("01000000"), make([]byte, 16)))
}

func TestDescrFollows(t *testing.T) {
	r := random(24)
	for i := range 500 {
		when, blob, data := someTime(r), someBytes(r, 1+r.Intn(50)), someBytes(r, r.Intn(50))
		if i == 0 {
			blob = make([]byte, 65536)
		}
		b, e := descr.Write(when, blob, data)
		if !stamp.Right(when) {
			wantErr(t, "P20.1: Write of no time", e, api.ErrArg)
			continue
		}
		got, gotBlob, gotData, e := descr.Read(b)
		if got != when || !bytes.Equal(gotBlob, blob) || !bytes.Equal(gotData, data) || e != 0 {
			t.Fatalf("P20.3: Read of what was written: %v, %x, %x, %d", got, gotBlob, gotData, e)
		}
		equal(t, "P20.3: Write", b, described(when, blob, data))
	}
}
