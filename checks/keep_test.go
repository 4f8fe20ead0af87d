package checks

import (
	"bytes"
	"fmt"
	"math/rand"
	"slices"
	"strings"
	"testing"

	"lintel/api"
	"lintel/flash"
	"lintel/keep"
	"lintel/nvram"
)

func openBook(t *testing.T, f *flash.Flash) *keep.Book {
	t.Helper()
	b, e := keep.Open(f)
	if b == nil || e != 0 {
		t.Fatalf("P21.1: Open: %d", e)
	}
	return b
}

// rawVar is a record's value, written apart from the program.
func rawVar(attr byte, when string, owner byte, data []byte) []byte {
	return slices.Concat([]byte{attr, 0, 0, 0}, unhex(when), bytes.Repeat([]byte{owner}, 32), data)
}

func wantVar(t *testing.T, what string, b *keep.Book, want api.Var) {
	t.Helper()
	got, ok, e := b.Get(want.Name, want.Guid)
	if !ok || e != 0 || fmt.Sprint(got) != fmt.Sprint(want) {
		t.Errorf("%s: Get: %v, %v, %d; want %v", what, got, ok, e, want)
	}
}

func TestKeepOpen(t *testing.T) {
	_, e := keep.Open(nil)
	wantErr(t, "P21.1: Open of none", e, api.ErrNil)
	b, e := keep.Open(newFlash(t, 3, 64))
	wantErr(t, "P21.1: Open", e, api.ErrArg)
	if b != nil {
		t.Errorf("P21.1: Open answers a book with an error")
	}
	f := newFlash(t, 2, 256)
	f.Arm(1, 0)
	_, e = keep.Open(f)
	wantErr(t, "P21.1: Open without power", e, api.ErrDead)
	if keep.Need("abc", 5) != 88 || keep.Need("", 0) != 80 {
		t.Errorf("P21.1: Need: %d", keep.Need("abc", 5))
	}
	var none *keep.Book
	_, _, e = none.Get("", api.Guid{})
	wantErr(t, "R4: Get", e, api.ErrNil)
	wantErr(t, "R4: Put", none.Put(api.Var{}), api.ErrNil)
	wantErr(t, "R4: Drop", none.Drop("", api.Guid{}), api.ErrNil)
	_, _, e = none.Next("", api.Guid{})
	wantErr(t, "R4: Next", e, api.ErrNil)
	_, _, e = none.Next(" ", api.Guid{})
	wantErr(t, "R4: Next", e, api.ErrNil)
	mark, e := none.Mark()
	wantErr(t, "R4: Mark", e, api.ErrNil)
	wantErr(t, "R4: SetMark", none.SetMark(1), api.ErrNil)
	used, e := none.Used()
	wantErr(t, "R4: Used", e, api.ErrNil)
	if none.Room() != 0 || mark != 0 || used != 0 {
		t.Errorf("R4: Room")
	}
}

func TestKeepExample(t *testing.T) {
	f := newFlash(t, 2, 256)
	b := openBook(t, f)
	data := roomy([]byte{5})
	v := api.Var{Name: "a", Guid: api.Guid{1}, Attr: 7, Data: data}
	wantErr(t, "P21.2: Put", b.Put(v), 0)
	untouched(t, "R3: Put", data, []byte{5})
	spoil(data)
	v.Data = []byte{5}
	if used, e := b.Used(); used != 82 || e != 0 || b.Room() != 240 || keep.Need("a", 1) != 82 {
		t.Errorf("P21.1: Used: %d, %d; Room: %d", used, e, b.Room())
	}
	wantVar(t, "P21.2", b, v)
	next := func(name string, g api.Guid, want string, e api.Errno) {
		t.Helper()
		n, space, got := b.Next(name, g)
		if n != want || got != e || (e == 0) != (space == api.Guid{1}) {
			t.Errorf("P21.3: Next of %q: %q, %x, %d; want %q, %d", name, n, space, got, want, e)
		}
	}
	next("", api.Guid{}, "a", 0)
	next("", api.Guid{0xff}, "a", 0)
	next("a", api.Guid{1}, "", api.ErrNone)
	next("b", api.Guid{}, "a", 0)
	next("A", api.Guid{1}, "a", 0)
	next("a", api.Guid{1, 1}, "", api.ErrNone)
	next("a b", api.Guid{}, "", api.ErrArg)
	next(strings.Repeat("x", 65), api.Guid{}, "", api.ErrArg)
	if m, e := b.Mark(); m != 0 || e != 0 {
		t.Errorf("P21.4: Mark: %d, %d", m, e)
	}
	wantErr(t, "P21.4: SetMark", b.SetMark(2), 0)
	if m, e := b.Mark(); m != 2 || e != 0 {
		t.Errorf("P21.4: Mark: %d, %d", m, e)
	}
	next("", api.Guid{}, "a", 0)
	next("a", api.Guid{1}, "", api.ErrNone)
	wantErr(t, "P21.2: Drop of none", b.Drop("b", api.Guid{1}), api.ErrNone)
	wantErr(t, "P21.2: Drop of none", b.Drop("a", api.Guid{2}), api.ErrNone)
	wantErr(t, "P21.2: Drop", b.Drop("a", api.Guid{1}), 0)
	next("", api.Guid{}, "", api.ErrNone)
	if v, ok, e := b.Get("a", api.Guid{1}); ok || e != 0 || v.Data != nil {
		t.Errorf("P21.2: Get of none: %v, %v, %d", v, ok, e)
	}
	if used, _ := b.Used(); used != 17 {
		t.Errorf("P21.4: the mark's record: %d", used)
	}
}

func TestKeepArgs(t *testing.T) {
	f := newFlash(t, 4, 65536)
	b := openBook(t, f)
	for _, name := range []string{"", " ", "a b", "é", strings.Repeat("x", 65)} {
		_, _, e := b.Get(name, other)
		wantErr(t, "P21.2: Get", e, api.ErrArg)
		wantErr(t, "P21.2: Put", b.Put(api.Var{Name: name}), api.ErrArg)
		wantErr(t, "P21.2: Drop", b.Drop(name, other), api.ErrArg)
	}
	most := api.Var{Name: strings.Repeat("x", 64), Guid: other, Attr: 1<<32 - 1, Time: someMoment, Owner: [32]byte{1, 31: 2}, Data: make([]byte, 65484)}
	wantErr(t, "P21.2: Put of the most", b.Put(most), 0)
	wantVar(t, "P21.2: of the most", b, most)
	for what, v := range map[string]api.Var{"too much": {Name: "a", Data: make([]byte, 65485)}, "no time": {Name: "a", Time: api.Time{Year: 2023, Month: 2, Day: 29}}, "a time of 0 years": {Name: "a", Time: api.Time{Second: 1}}} {
		wantErr(t, "P21.2: Put, "+what, b.Put(v), api.ErrArg)
	}
	f.Arm(1, 0)
	wantErr(t, "P21.2: Put", b.Put(api.Var{Name: "a"}), api.ErrDead)
	_, _, e := b.Get(" ", other)
	wantErr(t, "P21.2: ErrArg goes ahead", e, api.ErrArg)
	_, _, e = b.Get("a", other)
	wantErr(t, "P21.2: Get without power", e, api.ErrDead)
	wantErr(t, "P21.2: ErrArg goes ahead", b.Put(api.Var{Name: "a", Data: make([]byte, 65485)}), api.ErrArg)
	wantErr(t, "P21.2: Drop without power", b.Drop("a", other), api.ErrDead)
	_, _, e = b.Next(" ", other)
	wantErr(t, "P21.3: ErrArg goes ahead", e, api.ErrArg)
	_, _, e = b.Next("", other)
	wantErr(t, "P21.3: Next without power", e, api.ErrDead)
	_, e = b.Mark()
	wantErr(t, "P21.4: Mark without power", e, api.ErrDead)
	wantErr(t, "P21.4: SetMark without power", b.SetMark(1), api.ErrDead)
	_, e = b.Used()
	wantErr(t, "P21.1: Used without power", e, api.ErrDead)
}

// Records as they stand in the store, and such as say nothing.
func TestKeepRecords(t *testing.T) {
	f := newFlash(t, 2, 2048)
	b := openBook(t, f)
	s, _ := nvram.Open(f)
	v := api.Var{Name: "n", Guid: other, Attr: 0x67, Time: someMoment, Owner: [32]byte(bytes.Repeat([]byte{9}, 32)), Data: []byte{1, 2}}
	wantErr(t, "P21.2: Put", b.Put(v), 0)
	key := append(other[:], 'n')
	raw, ok, _ := s.Get(key)
	when := "e8070102030405 000000000000000000"
	if !ok || !bytes.Equal(raw, rawVar(0x67, when, 9, []byte{1, 2})) {
		t.Errorf("P21.2: a variable's record: %x", raw)
	}
	for what, value := range map[string][]byte{"nothing": nil, "51 bytes": make([]byte, 51), "no time": rawVar(7, "0000010000000000000000000000000000"[:32], 0, nil), "a time with a tail": rawVar(7, "e8070102030405 000000000000000001", 0, nil)} {
		s.Set(key, value)
		if v, ok, e := b.Get("n", other); ok || e != api.ErrForm || fmt.Sprint(v) != fmt.Sprint(api.Var{}) {
			t.Errorf("P21.2: Get, %s: %v, %v, %d", what, v, ok, e)
		}
		if n, _, e := b.Next("", api.Guid{}); n != "n" || e != 0 {
			t.Errorf("P21.3: Next, %s: %q, %d", what, n, e)
		}
	}
	s.Set(key, make([]byte, 52))
	wantVar(t, "P21.2: the least", b, api.Var{Name: "n", Guid: other})
	for _, value := range [][]byte{nil, {1, 2}} {
		s.Set([]byte("mark"), value)
		if m, e := b.Mark(); m != 0 || e != api.ErrForm {
			t.Errorf("P21.4: Mark of %x: %d, %d", value, m, e)
		}
	}
	s.Set([]byte("mark"), []byte{200})
	if m, e := b.Mark(); m != 200 || e != 0 {
		t.Errorf("P21.4: Mark: %d, %d", m, e)
	}
	// Keys that are no variables' are passed.
	s.Delete(key)
	s.Set([]byte{0}, nil)
	s.Set(make([]byte, 16), make([]byte, 60))
	s.Set(append(bytes.Clone(other[:]), ' '), make([]byte, 60))
	if n, _, e := b.Next("", api.Guid{}); n != "" || e != api.ErrNone {
		t.Errorf("P21.3: Next without variables: %q, %d", n, e)
	}
}

func someVar(r *rand.Rand) api.Var {
	v := api.Var{Name: []string{"a", "ab", "b", "PK"}[r.Intn(4)], Guid: []api.Guid{{}, global, security, other}[r.Intn(4)], Attr: r.Uint32(), Data: someBytes(r, r.Intn(30))}
	if r.Intn(2) == 0 {
		v.Time = someMoment
	}
	copy(v.Owner[:], someBytes(r, 32))
	return v
}

// shown are all variables of a book, gone through by Next, and the mark, as text.
func shown(t *testing.T, b *keep.Book) []string {
	t.Helper()
	var out []string
	name, g, e := b.Next("", api.Guid{})
	for ; e == 0; name, g, e = b.Next(name, g) {
		v, ok, e := b.Get(name, g)
		if !ok || e != 0 {
			t.Fatalf("P21.5: Get of what Next tells: %v, %d", ok, e)
		}
		out = append(out, fmt.Sprint(v))
		if len(out) > 100 {
			t.Fatal("P21.5: Next does not end")
		}
	}
	wantErr(t, "P21.3: Next", e, api.ErrNone)
	m, e := b.Mark()
	wantErr(t, "P21.4: Mark", e, 0)
	return append(out, fmt.Sprint("mark ", m))
}

// modelShown are the same of a model.
func modelShown(m map[string]api.Var, mark uint8) []string {
	var keys, out []string
	for k := range m {
		keys = append(keys, k)
	}
	slices.Sort(keys)
	for _, k := range keys {
		out = append(out, fmt.Sprint(m[k]))
	}
	return append(out, fmt.Sprint("mark ", mark))
}

func TestKeepFollows(t *testing.T) {
	r := random(25)
	f := newFlash(t, 4, 256)
	b := openBook(t, f)
	m, mark := map[string]api.Var{}, uint8(0)
	lost := 0
	for range 2500 {
		v := someVar(r)
		key := string(v.Guid[:]) + v.Name
		after, markAfter := map[string]api.Var{}, mark
		for k, x := range m {
			after[k] = x
		}
		f.Arm(r.Intn(400), r.Intn(300))
		var e api.Errno
		switch r.Intn(6) {
		case 0:
			markAfter = uint8(r.Intn(256))
			e = b.SetMark(markAfter)
		case 1, 2:
			_, ok := m[key]
			delete(after, key)
			if e = b.Drop(v.Name, v.Guid); e != api.ErrDead && (e == api.ErrNone) == ok {
				t.Fatalf("P21.2: Drop: %d", e)
			}
		default:
			after[key] = v
			if used, _ := b.Used(); used+keep.Need(v.Name, len(v.Data)) > b.Room() {
				after = m
				wantErr(t, "P21.2: Put without room", b.Put(v), api.ErrFull)
			} else {
				e = b.Put(v)
			}
		}
		if e == api.ErrDead {
			lost++
			f.On()
			b = openBook(t, f)
			if slices.Equal(shown(t, b), modelShown(m, mark)) {
				continue
			}
		}
		f.Arm(0, 0)
		if e == api.ErrFull {
			continue // of SetMark alone
		}
		m, mark = after, markAfter
		if got, want := shown(t, b), modelShown(m, mark); !slices.Equal(got, want) {
			t.Fatalf("P21.5: %q, want %q", got, want)
		}
	}
	if lost < 200 {
		t.Errorf("only %d losses", lost)
	}
}
