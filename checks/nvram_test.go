package checks

import (
	"bytes"
	"math"
	"math/rand"
	"sort"
	"strconv"
	"testing"

	"lintel/api"
	"lintel/bank"
	"lintel/flash"
	"lintel/nvram"
)

func openStore(t *testing.T, f *flash.Flash) *nvram.Store {
	t.Helper()
	s, e := nvram.Open(f)
	if s == nil || e != 0 {
		t.Fatalf("P9.1: Open: %d", e)
	}
	return s
}

// wantStore fails the test unless the store is that map.
func wantStore(t *testing.T, what string, s *nvram.Store, want map[string]string) {
	t.Helper()
	var names []string
	used := 0
	for k, v := range want {
		names = append(names, k)
		used += 12 + len(k) + len(v)
	}
	sort.Strings(names)
	keys, e := s.Keys()
	if e != 0 || len(keys) != len(names) {
		t.Fatalf("%s: Keys: %q, %d; want %q", what, keys, e, names)
	}
	for i, k := range names {
		got, ok, e := s.Get([]byte(k))
		if string(keys[i]) != k || !ok || e != 0 || string(got) != want[k] {
			t.Fatalf("%s: Get(%q): %q, %v, %d; want %q", what, k, got, ok, e, want[k])
		}
	}
	if got, ok, e := s.Get([]byte("?")); len(got) != 0 || ok || e != 0 {
		t.Fatalf("%s: Get of none: %q, %v, %d", what, got, ok, e)
	}
	if n, e := s.Used(); n != used || e != 0 {
		t.Fatalf("%s: Used: %d, %d; want %d", what, n, e, used)
	}
}

func TestNvramOpen(t *testing.T) {
	for _, c := range [][2]int{{2, 64}, {4, 32}, {8, 16}, {64, 16}, {2, 65536}} {
		f := newFlash(t, c[0], c[1])
		s := openStore(t, f)
		if s.Room() != c[0]*c[1]/2-16 {
			t.Errorf("P9.2: Room: %d", s.Room())
		}
		wantStore(t, "P9.1", s, nil)
		equal(t, "P9.1: the first bank is ready", f.Image()[:16], append(rawHead(1), 0xfe, 0xff, 0xff, 0xff))
	}
	for _, c := range [][2]int{{1, 64}, {3, 64}, {2, 63}, {6, 20}, {4, 31}, {63, 65536}} {
		f := newFlash(t, c[0], c[1])
		f.Arm(1, 0)
		f.Erase(0)
		if s, e := nvram.Open(f); s != nil || e != api.ErrArg {
			t.Errorf("P9.1: Open of %d sectors of %d bytes: %d", c[0], c[1], e)
		}
	}
	s, e := nvram.Open(nil)
	wantErr(t, "P9.1: Open of none", e, api.ErrNil)
	if s != nil {
		t.Errorf("P9.1: Open of none answers a store")
	}
	f := newFlash(t, 2, 64)
	f.Arm(1, 0)
	f.Erase(0)
	_, e = nvram.Open(f)
	wantErr(t, "P9.1: Open without power", e, api.ErrDead)
}

func TestNvramNone(t *testing.T) {
	var s *nvram.Store
	_, ok, e := s.Get(nil)
	wantErr(t, "R4: Get", e, api.ErrNil)
	wantErr(t, "R4: Set", s.Set(nil, nil), api.ErrNil)
	wantErr(t, "R4: Delete", s.Delete(nil), api.ErrNil)
	_, e = s.Keys()
	wantErr(t, "R4: Keys", e, api.ErrNil)
	used, e := s.Used()
	wantErr(t, "R4: Used", e, api.ErrNil)
	if s.Room() != 0 || ok || used != 0 {
		t.Errorf("R4: Room: %d", s.Room())
	}
}

func TestNvramExample(t *testing.T) {
	f := newFlash(t, 2, 64)
	s := openStore(t, f)
	a, b := []byte("a"), []byte("b")
	wantErr(t, "P9.3: Set", s.Set(a, make([]byte, 10)), 0)
	wantErr(t, "P9.3: Set", s.Set(a, make([]byte, 12)), 0)
	before := f.Image()
	wantErr(t, "P9.3: Set without room", s.Set(a, make([]byte, 12)), api.ErrFull)
	equal(t, "P9.3: nothing is done", f.Image(), before)
	wantErr(t, "P9.3: Set that copies", s.Set(b, make([]byte, 10)), 0)
	equal(t, "P9.3: the other bank counts", f.Image()[64:80], append(rawHead(2), 0xfe, 0xff, 0xff, 0xff))
	equal(t, "P9.3: the first bank is as it was", f.Image()[:64], before[:64])
	wantErr(t, "P9.4: Delete of none", s.Delete([]byte("c")), api.ErrNone)
	wantErr(t, "P9.4: Delete of no key", s.Delete(nil), api.ErrNone)
	wantStore(t, "P9.3", s, map[string]string{"a": string(make([]byte, 12)), "b": string(make([]byte, 10))})
	wantErr(t, "P9.4: Delete", s.Delete(a), 0)
	wantErr(t, "P9.4: Delete once more", s.Delete(a), api.ErrNone)
	wantStore(t, "P9.4", s, map[string]string{"b": string(make([]byte, 10))})
}

func TestNvramArgs(t *testing.T) {
	f := newFlash(t, 4, 65536)
	s := openStore(t, f)
	for _, c := range [][2]int{{0, 0}, {256, 0}, {1, 65537}} {
		wantErr(t, "P9.3: Set", s.Set(make([]byte, c[0]), make([]byte, c[1])), api.ErrArg)
	}
	key, value := roomy(bytes.Repeat([]byte("k"), 255)), roomy(make([]byte, 65536))
	wantErr(t, "P9.3: Set of the longest", s.Set(key, value), 0)
	untouched(t, "R3: Set", key, bytes.Repeat([]byte("k"), 255))
	untouched(t, "R3: Set", value, make([]byte, 65536))
	spoil(value)
	got, ok, e := s.Get(key)
	if !ok || e != 0 || !bytes.Equal(got, make([]byte, 65536)) {
		t.Errorf("P9.2: Get of the longest: %v, %d", ok, e)
	}
	spoil(got)
	keys, _ := s.Keys()
	spoil(keys[0])
	wantStore(t, "R3", s, map[string]string{string(bytes.Repeat([]byte("k"), 255)): string(make([]byte, 65536))})
	f.Arm(1, 0)
	f.Erase(3)
	for _, c := range [][2]int{{0, 0}, {256, 0}, {1, 65537}} {
		wantErr(t, "P9.3: ErrArg goes ahead of ErrDead", s.Set(make([]byte, c[0]), make([]byte, c[1])), api.ErrArg)
	}
	wantErr(t, "P9.3: ErrDead goes ahead of ErrFull", s.Set(key, value), api.ErrDead)
	wantErr(t, "P9.4: Delete without power", s.Delete(nil), api.ErrDead)
	_, _, e = s.Get(nil)
	wantErr(t, "P9.2: Get without power", e, api.ErrDead)
	_, e = s.Keys()
	wantErr(t, "P9.2: Keys without power", e, api.ErrDead)
	used, e := s.Used()
	wantErr(t, "P9.2: Used without power", e, api.ErrDead)
	if s.Room() != 131056 || used != 0 {
		t.Errorf("P9.2: Room without power: %d", s.Room())
	}
}

// twoBanks are the banks of a new flash of 4 sectors of 64 bytes.
func twoBanks(t *testing.T) (*flash.Flash, [2]*bank.Bank) {
	f := newFlash(t, 4, 64)
	a, _ := bank.At(f, 0, 2)
	b, _ := bank.At(f, 2, 2)
	return f, [2]*bank.Bank{a, b}
}

func TestNvramWhichCounts(t *testing.T) {
	for _, c := range []struct {
		gens  [2]uint32
		ready [2]bool
		want  string
	}{
		{[2]uint32{5, 6}, [2]bool{true, true}, "second"}, {[2]uint32{6, 5}, [2]bool{true, true}, "first"}, {[2]uint32{5, 5}, [2]bool{true, true}, "first"},
		{[2]uint32{5, 6}, [2]bool{true, false}, "first"}, {[2]uint32{6, 5}, [2]bool{false, true}, "second"}, {[2]uint32{0, 0}, [2]bool{false, true}, "second"},
		{[2]uint32{1 << 31, 1<<31 - 1}, [2]bool{true, true}, "first"}, {[2]uint32{5, 6}, [2]bool{false, false}, ""},
	} {
		f, banks := twoBanks(t)
		for i, b := range banks {
			b.Format(c.gens[i])
			b.Add([]byte("k"), []byte([]string{"first", "second"}[i]))
			if c.ready[i] {
				b.Ready()
			}
		}
		want := map[string]string{"k": c.want}
		if c.want == "" {
			want = nil
		}
		wantStore(t, "P9.1: which bank counts", openStore(t, f), want)
	}
}

func TestNvramOpenKills(t *testing.T) {
	for n := 1; n <= 4; n++ {
		f, banks := twoBanks(t)
		banks[0].Format(1)
		for _, kv := range []string{"a1", "b1", "a2", "c1", "a3", "b2"} {
			banks[0].Add([]byte(kv[:1]), []byte(kv[1:]))
		}
		banks[0].Kill(5)
		banks[0].Ready()
		f.Arm(n, 0)
		_, e := nvram.Open(f)
		if n <= 2 {
			wantErr(t, "P9.1: Open", e, api.ErrDead)
			f.On()
		}
		l, _, _, _ := banks[0].Scan()
		for i, lives := range []bool{n < 2, true, n < 3, true, true, false} {
			if l[i].Lives != lives {
				t.Errorf("P9.1: behind %d writes the record %d lives: %v", n-1, i, l[i].Lives)
			}
		}
		f.Arm(0, 0)
		wantStore(t, "P9.1", openStore(t, f), map[string]string{"a": "3", "b": "1", "c": "1"})
	}
}

func TestNvramGenerations(t *testing.T) {
	f, banks := twoBanks(t)
	banks[1].Format(math.MaxUint32)
	banks[1].Ready()
	s := openStore(t, f)
	wantErr(t, "P9.3: Set of the last generation", s.Set([]byte("k"), make([]byte, 60)), 0)
	wantErr(t, "P9.3: Set up to the end", s.Set([]byte("l"), make([]byte, 26)), 0)
	wantErr(t, "P9.4: Delete", s.Delete([]byte("k")), 0)
	before := f.Image()
	wantErr(t, "P9.3: Set that would copy", s.Set([]byte("m"), make([]byte, 10)), api.ErrState)
	wantErr(t, "P9.3: ErrFull goes ahead of ErrState", s.Set([]byte("m"), make([]byte, 90)), api.ErrFull)
	equal(t, "P9.3: nothing is done", f.Image(), before)
}

func TestNvramCopiesWhatIsNotWhole(t *testing.T) {
	f, banks := twoBanks(t)
	s := openStore(t, f)
	s.Set([]byte("b"), []byte("1"))
	s.Set([]byte("a"), []byte("2"))
	s.Set([]byte("b"), []byte("3"))
	f.Arm(5, 0)
	wantErr(t, "P9.3: Set", s.Set([]byte("c"), nil), api.ErrDead)
	f.On()
	s = openStore(t, f)
	wantErr(t, "P9.3: Set to a bank that is not whole", s.Set([]byte("c"), []byte("4")), 0)
	wantStore(t, "P9.3", s, map[string]string{"a": "2", "b": "3", "c": "4"})
	wantScan(t, "P9.3: records are copied in their order", banks[1], []string{"a=2", "b=3", "c=4"}, 58, true)
	gen, ready, _ := banks[1].Head()
	if gen != 2 || !ready {
		t.Errorf("P9.3: the generation of a copy: %d, %v", gen, ready)
	}
}

// someChange does a change to a store and a model of it, and answers the error and what the map would be.
func someChange(r *rand.Rand, s *nvram.Store, m map[string]string, room int) (api.Errno, map[string]string, api.Errno) {
	after, used := map[string]string{}, 0
	for k, v := range m {
		after[k] = v
		used += 12 + len(k) + len(v)
	}
	key := strconv.Itoa(r.Intn(5))
	if r.Intn(4) == 0 {
		_, ok := m[key]
		delete(after, key)
		if !ok {
			return s.Delete([]byte(key)), m, api.ErrNone
		}
		return s.Delete([]byte(key)), after, 0
	}
	value := someBytes(r, r.Intn(room/3))
	after[key] = string(value)
	if used+12+len(key)+len(value) > room {
		return s.Set([]byte(key), value), m, api.ErrFull
	}
	return s.Set([]byte(key), value), after, 0
}

func TestNvramIsAMap(t *testing.T) {
	r := random(13)
	for _, c := range [][2]int{{2, 64}, {4, 32}, {4, 100}} {
		f := newFlash(t, c[0], c[1])
		s := openStore(t, f)
		m := map[string]string{}
		for range 800 {
			e, after, want := someChange(r, s, m, s.Room())
			wantErr(t, "P9.5", e, want)
			m = after
			wantStore(t, "P9.5", s, m)
			if r.Intn(5) == 0 {
				s = openStore(t, f)
				wantStore(t, "P9.5: opened again", s, m)
			}
		}
	}
}

// Wherever the power goes, in a change and in the opening behind it too, the map is as ahead of the change or as it would be behind it.
func TestNvramLosses(t *testing.T) {
	r := random(14)
	for _, c := range [][2]int{{2, 64}, {4, 32}, {6, 40}} {
		f := newFlash(t, c[0], c[1])
		f.Arm(1+r.Intn(14), 0)
		for f.Dead() || func() bool { _, e := nvram.Open(f); return e != 0 }() {
			f.On()
			f.Arm(r.Intn(14), 0)
		}
		f.Arm(0, 0)
		s := openStore(t, f)
		m := map[string]string{}
		lost := 0
		for range 4000 {
			f.Arm(1+r.Intn(1+r.Intn(160)), r.Intn(c[1]+2))
			e, after, want := someChange(r, s, m, s.Room())
			if e != api.ErrDead {
				wantErr(t, "P9.6", e, want)
				m = after
				continue
			}
			lost++
			s = reopen(t, r, f)
			got := contents(t, s)
			switch {
			case same(got, m):
			case want == 0 && same(got, after):
				m = after
			default:
				t.Fatalf("P9.6: behind a loss the map is %q, not %q or %q", got, m, after)
			}
			wantStore(t, "P9.6", s, m)
		}
		if lost < 500 {
			t.Errorf("only %d losses", lost)
		}
	}
}

// reopen switches the power on and opens, with losses of power on the way, until it is done.
func reopen(t *testing.T, r *rand.Rand, f *flash.Flash) *nvram.Store {
	t.Helper()
	for {
		wantErr(t, "P7.4: On", f.On(), 0)
		f.Arm(r.Intn(4), r.Intn(20))
		s, e := nvram.Open(f)
		if e == 0 {
			f.Arm(0, 0)
			return s
		}
		if e != api.ErrDead || !f.Dead() {
			t.Fatalf("P9.6: Open is refused: %d", e)
		}
	}
}

func contents(t *testing.T, s *nvram.Store) map[string]string {
	t.Helper()
	keys, e := s.Keys()
	wantErr(t, "P9.2: Keys", e, 0)
	m := map[string]string{}
	for _, k := range keys {
		v, _, _ := s.Get(k)
		m[string(k)] = string(v)
	}
	return m
}

func same(a, b map[string]string) bool {
	for k, v := range a {
		if w, ok := b[k]; !ok || v != w {
			return false
		}
	}
	return len(a) == len(b)
}

// A store under which somebody has erased the flash is empty, and takes nothing until it is opened again.
func TestNvramErased(t *testing.T) {
	f := newFlash(t, 2, 64)
	s := openStore(t, f)
	wantErr(t, "P9.3: Set", s.Set([]byte("a"), nil), 0)
	f.Erase(0)
	wantStore(t, "of an erased flash", s, nil)
	wantErr(t, "Set to an erased flash", s.Set([]byte("a"), nil), api.ErrState)
	wantErr(t, "Delete of an erased flash", s.Delete([]byte("a")), api.ErrNone)
	wantStore(t, "P9.1: opened again", openStore(t, f), nil)
	wantErr(t, "P9.3: Set", s.Set([]byte("a"), nil), 0)
}
