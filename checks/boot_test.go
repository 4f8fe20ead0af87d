package checks

import (
	"bytes"
	"encoding/binary"
	"fmt"
	"slices"
	"testing"

	"lintel/api"
	"lintel/boot"
	"lintel/nvram"
	"lintel/vars"
)

func TestBootName(t *testing.T) {
	for n := range 65536 {
		if got := boot.Name(uint16(n)); got != fmt.Sprintf("Boot%04X", n) {
			t.Fatalf("P26.1: Name of %d: %q", n, got)
		}
	}
}

// order are numbers as BootOrder has them.
func order(numbers ...uint16) []byte {
	var b []byte
	for _, n := range numbers {
		b = binary.LittleEndian.AppendUint16(b, n)
	}
	return b
}

// finder finds images at paths.
func finder(images map[string][]byte) func(path []byte) ([]byte, bool) {
	return func(path []byte) ([]byte, bool) {
		b, ok := images[string(path)]
		spoil(path)
		return b, ok
	}
}

func wantRun(t *testing.T, what string, v *vars.Vars, images map[string][]byte, path string, want api.Errno, tries ...api.Try) {
	t.Helper()
	got, at, e := boot.Run(v, finder(images))
	if !slices.Equal(got, tries) || string(at) != path || e != want {
		t.Errorf("P26.2: Run, %s: %v, %q, %d; want %v, %q, %d", what, got, at, e, tries, path, want)
	}
}

func TestBootNone(t *testing.T) {
	_, v := newVars(t)
	wantErr(t, "P26.1: Judge of none", boot.Judge(nil, nil), api.ErrNil)
	tries, path, e := boot.Run(nil, finder(nil))
	if len(tries)+len(path) != 0 || e != api.ErrNil {
		t.Errorf("P26.2: Run of none: %v, %q, %d", tries, path, e)
	}
	tries, path, e = boot.Run(v, nil)
	if len(tries)+len(path) != 0 || e != api.ErrNil {
		t.Errorf("P26.2: Run without find: %v, %q, %d", tries, path, e)
	}
}

func TestBootJudge(t *testing.T) {
	f, v := newVars(t)
	s := varsSteps{t, v}
	x, d := image(7, nil), imageDigest(7)
	nine := plainImage(slices.Repeat([][]byte{{7, 7}}, 9)...).bytes()
	ask := func(what string, image []byte, want api.Errno) {
		t.Helper()
		wantErr(t, "P26.1: Judge, "+what, boot.Judge(v, image), want)
	}
	ask("in Setup", x, 0)
	ask("what is no image, in Setup", nil, api.ErrForm)
	ask("nine rows, in Setup", nine, api.ErrBig)
	s.set("dbx", "dbx", security, 39, described(at(1), []byte{1}, digestList(d)), 0)
	ask("denied, in Setup", x, 0)
	s.set("PK", "PK", global, 39, described(at(1), []byte{1}, certList(1, owner.cert)), 0)
	ask("denied", x, api.ErrDenied)
	s.set("dbx", "dbx", security, 39, owner.signed("dbx", security, 39, at(2), nil), 0)
	ask("no db", x, api.ErrDenied)
	s.set("db", "db", security, 39, owner.signed("db", security, 39, at(2), digestList(d)), 0)
	ask("in db", x, 0)
	ask("another one", image(8, nil), api.ErrDenied)
	ask("what is no image", nil, api.ErrForm)
	ask("nine rows", nine, api.ErrBig)
	s.set("DeployedMode", "DeployedMode", global, 3, []byte{1}, 0)
	ask("in db, Deployed", x, 0)
	ask("another one, Deployed", image(8, nil), api.ErrDenied)
	s.set("dbx", "dbx", security, 39, owner.signed("dbx", security, 39, at(3), digestList(d)), 0)
	ask("in dbx, Deployed", x, api.ErrDenied)
	store, _ := nvram.Open(f)
	broken := func(what string, key []byte) {
		t.Helper()
		old, _, _ := store.Get(key)
		store.Set(key, []byte{1, 2})
		ask(what, x, api.ErrForm)
		store.Set(key, old)
		ask(what+" no more", x, api.ErrDenied)
	}
	broken("a dbx that says nothing", append(bytes.Clone(security[:]), "dbx"...))
	broken("a db that says nothing", append(bytes.Clone(security[:]), "db"...))
	broken("a PK that says nothing", append(bytes.Clone(global[:]), "PK"...))
	broken("a mark that says nothing", []byte("mark"))
	f.Arm(1, 0)
	f.Erase(0)
	ask("without power", x, api.ErrDead)
}

func TestBootRun(t *testing.T) {
	f, v := newVars(t)
	s := varsSteps{t, v}
	wantRun(t, "without variables", v, nil, "", api.ErrNone)
	s.set("BootOrder", "BootOrder", global, 7, order(1), 0)
	wantRun(t, "a missing option", v, nil, "", api.ErrNone, api.Try{Number: 1, Err: api.ErrNone})
	one, two := image(1, nil), image(2, nil)
	images := map[string][]byte{"one": one, "two": two, "bad": {1}}
	opt := func(name string, attr uint32, path string) {
		t.Helper()
		s.set(name, name, global, 7, optionBytes(attr, "label", []byte(path), []byte{9}), 0)
	}
	opt("Boot0001", 1, "one")
	opt("Boot0002", 3, "two")
	opt("Boot0003", 2, "one")
	opt("Boot0004", 1, "three")
	opt("Boot00AB", 1, "bad")
	opt("Boot00ab", 1, "one")
	opt("BootFFFF", 1, "two")
	s.set("Boot0005", "Boot0005", global, 7, []byte{1, 2, 3}, 0)
	s.set("Boot0006", "Boot0006", other, 7, optionBytes(1, "", []byte("one"), nil), 0)
	ok := func(n uint16) api.Try { return api.Try{Number: n} }
	no := func(n uint16, e api.Errno) api.Try { return api.Try{Number: n, Err: e} }
	wantRun(t, "the first one", v, images, "one", 0, ok(1))
	s.set("BootOrder", "BootOrder", global, 7, order(5, 3, 4, 6, 0xab, 3, 0xffff, 1), 0)
	wantRun(t, "one behind others", v, images, "two", 0, no(5, api.ErrForm), no(3, api.ErrState), no(4, api.ErrNone), no(6, api.ErrNone), no(0xab, api.ErrForm), no(3, api.ErrState), ok(0xffff))
	s.set("BootOrder", "BootOrder", global, 7, order(5, 3), 0)
	wantRun(t, "none of them", v, images, "", api.ErrNone, no(5, api.ErrForm), no(3, api.ErrState))
	s.set("BootOrder", "BootOrder", global, 7, append(order(1, 2), 3), 0)
	wantRun(t, "an odd count", v, images, "", api.ErrNone)
	s.set("BootOrder", "BootOrder", global, 7, order(1, 2), 0)
	s.set("BootNext", "BootNext", global, 7, order(2), 0)
	wantRun(t, "BootNext", v, images, "two", 0, ok(2))
	s.hasNot("BootNext", global)
	wantRun(t, "BootNext is gone", v, images, "one", 0, ok(1))
	s.set("BootNext", "BootNext", global, 7, order(3), 0)
	wantRun(t, "a BootNext that is not active", v, images, "one", 0, no(3, api.ErrState), ok(1))
	s.set("BootNext", "BootNext", global, 7, order(1), 0)
	wantRun(t, "BootNext and BootOrder alike", v, map[string][]byte{"two": two}, "two", 0, no(1, api.ErrNone), no(1, api.ErrNone), ok(2))
	for _, b := range [][]byte{{2}, {2, 0, 1}, {2, 0, 1, 0}} {
		s.set("BootNext", "BootNext", global, 3, b, 0)
		wantRun(t, "a BootNext of another length", v, images, "one", 0, ok(1))
		s.hasNot("BootNext", global)
	}
	wantRun(t, "the last one does not say", v, map[string][]byte{"one": {1}, "two": {2}}, "", api.ErrNone, no(1, api.ErrForm), no(2, api.ErrForm))
	// With a PK images are judged.
	s.set("db", "db", security, 39, described(at(1), []byte{1}, digestList(imageDigest(2))), 0)
	s.set("PK", "PK", global, 39, described(at(1), []byte{1}, certList(1, owner.cert)), 0)
	wantRun(t, "one that is denied", v, images, "two", 0, no(1, api.ErrDenied), ok(2))
	wantRun(t, "all denied", v, map[string][]byte{"one": one, "two": one}, "", api.ErrNone, no(1, api.ErrDenied), no(2, api.ErrDenied))
	bootErrors(t, f, v, images)
}

// bootErrors are those that end all.
func bootErrors(t *testing.T, f interface {
	Arm(n, part int) api.Errno
	On() api.Errno
}, v *vars.Vars, images map[string][]byte) {
	t.Helper()
	s := varsSteps{t, v}
	s.set("BootNext", "BootNext", global, 7, order(2), 0)
	f.Arm(1, 0)
	wantRun(t, "power that goes ahead of dropping", v, images, "", api.ErrDead)
	wantRun(t, "without power", v, images, "", api.ErrDead)
	f.On()
	s.has("BootNext is as it was", api.Var{Name: "BootNext", Guid: global, Attr: 7, Data: order(2)})
	wantRun(t, "behind a loss", v, images, "two", 0, api.Try{Number: 2})
}

func TestBootFormErrors(t *testing.T) {
	f, v := newVars(t)
	s := varsSteps{t, v}
	store, _ := nvram.Open(f)
	s.set("BootOrder", "BootOrder", global, 7, order(1, 2), 0)
	s.set("BootNext", "BootNext", global, 7, order(3), 0)
	s.set("Boot0001", "Boot0001", global, 7, optionBytes(1, "", []byte("one"), nil), 0)
	key := func(name string) []byte { return append(bytes.Clone(global[:]), name...) }
	store.Set(key("Boot0001"), []byte{1})
	wantRun(t, "an option's variable that says nothing", v, map[string][]byte{"one": image(1, nil)}, "", api.ErrForm)
	s.hasNot("BootNext", global)
	store.Set(key("BootOrder"), []byte{1})
	s.set("BootNext", "BootNext", global, 7, order(3), 0)
	wantRun(t, "a BootOrder that says nothing", v, nil, "", api.ErrForm)
	s.hasNot("BootNext", global)
	store.Delete(key("BootOrder"))
	store.Set(key("BootNext"), []byte{1})
	wantRun(t, "a BootNext that says nothing", v, nil, "", api.ErrForm)
}

func TestBootAnswersAreNewMemory(t *testing.T) {
	_, v := newVars(t)
	s := varsSteps{t, v}
	s.set("BootOrder", "BootOrder", global, 7, order(1), 0)
	s.set("Boot0001", "Boot0001", global, 7, optionBytes(1, "", []byte("one"), nil), 0)
	x := roomy(image(1, nil))
	for range 2 {
		_, path, e := boot.Run(v, func(path []byte) ([]byte, bool) { spoil(path); return x, true })
		if string(path) != "one" || e != 0 {
			t.Errorf("R3: Run: %q, %d", path, e)
		}
		spoil(path)
	}
	untouched(t, "R3: the image that is found", x, image(1, nil))
}
