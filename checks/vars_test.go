package checks

import (
	"bytes"
	"encoding/binary"
	"fmt"
	"slices"
	"strings"
	"testing"

	"lintel/api"
	"lintel/flash"
	"lintel/nvram"
	"lintel/vars"
)

// signedText is what is signed, written apart from the program.
func signedText(name string, g api.Guid, attr uint32, t api.Time, value []byte) []byte {
	var b []byte
	for i := range len(name) {
		b = append(b, name[i], 0)
	}
	b = append(b, g[:]...)
	b = binary.LittleEndian.AppendUint32(b, attr)
	b = binary.LittleEndian.AppendUint16(b, t.Year)
	b = append(b, t.Month, t.Day, t.Hour, t.Minute, t.Second)
	return slices.Concat(b, make([]byte, 9), value)
}

// at is a moment so many seconds (below 3600) behind another one.
func at(s int) api.Time {
	return api.Time{Year: 2024, Month: 1, Day: 2, Hour: 3, Minute: uint8(s / 60), Second: uint8(s % 60)}
}

var signedCache = map[string][]byte{}

// blobFor is the blob of a person for a variable's value, with the own certificate and further ones.
func (p *person) blobFor(name string, g api.Guid, attr uint32, t api.Time, value []byte, more ...[]byte) []byte {
	text := signedText(name, g, attr, t, value)
	id := p.name + string(text) + fmt.Sprint(len(more))
	if signedCache[id] == nil {
		signedCache[id] = p.blobOf(text, more...)
	}
	return signedCache[id]
}

// signed is a value with the descriptor, and the blob of a person.
func (p *person) signed(name string, g api.Guid, attr uint32, t api.Time, value []byte, more ...[]byte) []byte {
	return described(t, p.blobFor(name, g, attr, t, value, more...), value)
}

func openVars(t *testing.T, f *flash.Flash) *vars.Vars {
	t.Helper()
	v, e := vars.Open(f)
	if v == nil || e != 0 {
		t.Fatalf("P23.1: Open: %d", e)
	}
	return v
}

func newVars(t *testing.T) (*flash.Flash, *vars.Vars) {
	t.Helper()
	f := newFlash(t, 4, 16384)
	return f, openVars(t, f)
}

// varsSteps asks one thing after another of variables.
type varsSteps struct {
	t *testing.T
	v *vars.Vars
}

func (s varsSteps) set(what, name string, g api.Guid, attr uint32, data []byte, want api.Errno) {
	s.t.Helper()
	in := roomy(data)
	wantErr(s.t, "P23.3: Set, "+what, s.v.Set(name, g, attr, in), want)
	untouched(s.t, "R3: Set", in, data)
}

func (s varsSteps) mode(want uint8) {
	s.t.Helper()
	got, e := s.v.Mode()
	if got != want || e != 0 {
		s.t.Errorf("P23.1: Mode: %d, %d; want %d", got, e, want)
	}
	byName := map[string]byte{"SetupMode": 0, "SecureBoot": 0, "AuditMode": 0, "DeployedMode": 0}
	switch want {
	case api.ModeSetup:
		byName["SetupMode"] = 1
	case api.ModeAudit:
		byName["SetupMode"], byName["AuditMode"] = 1, 1
	case api.ModeUser:
		byName["SecureBoot"] = 1
	case api.ModeDeployed:
		byName["SecureBoot"], byName["DeployedMode"] = 1, 1
	}
	for name, x := range byName {
		s.has("of the mode", api.Var{Name: name, Guid: global, Attr: 6, Data: []byte{x}})
	}
}

func (s varsSteps) has(what string, want api.Var) {
	s.t.Helper()
	got, need, e := s.v.Get(want.Name, want.Guid, len(want.Data))
	if fmt.Sprint(got) != fmt.Sprint(want) || need != len(want.Data) || e != 0 {
		s.t.Errorf("P23.2, P23.3: Get, %s: %v, %d, %d; want %v", what, got, need, e, want)
	}
	if len(want.Data) == 0 {
		return
	}
	spoil(got.Data)
	got, need, e = s.v.Get(want.Name, want.Guid, len(want.Data)-1)
	if fmt.Sprint(got) != fmt.Sprint(api.Var{}) || need != len(want.Data) || e != api.ErrSmall {
		s.t.Errorf("P23.2: Get without room, %s: %v, %d, %d", what, got, need, e)
	}
}

func (s varsSteps) hasNot(name string, g api.Guid) {
	s.t.Helper()
	got, need, e := s.v.Get(name, g, 1<<20)
	if fmt.Sprint(got) != fmt.Sprint(api.Var{}) || need != 0 || e != api.ErrNone {
		s.t.Errorf("P23.2: Get of none: %v, %d, %d", got, need, e)
	}
}

// enrolled are variables in the user mode: PK of the owner, KEK of the keeper, all times at(10).
func enrolled(t *testing.T) (*flash.Flash, varsSteps) {
	t.Helper()
	f, v := newVars(t)
	s := varsSteps{t, v}
	s.set("KEK", "KEK", global, 39, keeper.signed("KEK", global, 39, at(10), certList(1, keeper.cert)), 0)
	s.set("PK", "PK", global, 39, owner.signed("PK", global, 39, at(10), certList(1, owner.cert)), 0)
	s.mode(api.ModeUser)
	return f, s
}

func TestVarsOpen(t *testing.T) {
	_, e := vars.Open(nil)
	wantErr(t, "P23.1: Open of none", e, api.ErrNil)
	v, e := vars.Open(newFlash(t, 3, 64))
	wantErr(t, "P23.1: Open", e, api.ErrArg)
	if v != nil {
		t.Errorf("P23.1: Open answers something with an error")
	}
	mode, e := v.Mode()
	wantErr(t, "R4: Mode", e, api.ErrNil)
	_, need, e := v.Get("", api.Guid{}, -1)
	wantErr(t, "R4: Get", e, api.ErrNil)
	_, _, e = v.Next(" ", api.Guid{})
	wantErr(t, "R4: Next", e, api.ErrNil)
	wantErr(t, "R4: Set", v.Set("", api.Guid{}, 0, nil), api.ErrNil)
	wantErr(t, "R4: Drop", v.Drop("", api.Guid{}), api.ErrNil)
	room, used, e := v.Info()
	wantErr(t, "R4: Info", e, api.ErrNil)
	if mode != 0 || need != 0 || room != 0 || used != 0 {
		t.Errorf("R4: something of no variables: %d, %d, %d, %d", mode, need, room, used)
	}
}

func TestVarsExample(t *testing.T) {
	_, v := newVars(t)
	s := varsSteps{t, v}
	s.mode(api.ModeSetup)
	s.set("x", "x", other, 3, []byte{5}, 0)
	s.has("x", api.Var{Name: "x", Guid: other, Attr: 3, Data: []byte{5}})
	s.set("other attributes", "x", other, 7, []byte{6}, api.ErrArg)
	s.set("append", "x", other, 67, []byte{7}, 0)
	s.has("appended", api.Var{Name: "x", Guid: other, Attr: 3, Data: []byte{5, 7}})
	s.set("append with other attributes", "x", other, 71, []byte{7}, api.ErrArg)
	s.set("append of nothing", "x", other, 67, nil, 0)
	s.has("appended nothing", api.Var{Name: "x", Guid: other, Attr: 3, Data: []byte{5, 7}})
	s.set("another value", "x", other, 3, []byte{8, 9, 10}, 0)
	s.has("another value", api.Var{Name: "x", Guid: other, Attr: 3, Data: []byte{8, 9, 10}})
	s.set("nothing", "x", other, 3, nil, 0)
	s.hasNot("x", other)
	s.set("nothing once more", "x", other, 3, nil, api.ErrNone)
	s.set("append of nothing to nothing", "x", other, 67, nil, 0)
	s.hasNot("x", other)
	s.set("append to nothing", "x", other, 71, []byte{1}, 0)
	s.has("append to nothing", api.Var{Name: "x", Guid: other, Attr: 7, Data: []byte{1}})
	room, used, e := v.Info()
	if room != 2*16384-16 || used != 12+16+1+52+1 || e != 0 {
		t.Errorf("P23.1: Info: %d, %d, %d", room, used, e)
	}
	n, g, e := v.Next("", api.Guid{})
	if n != "x" || g != other || e != 0 {
		t.Errorf("P23.1: Next: %q, %x, %d", n, g, e)
	}
	_, _, e = v.Next("x", other)
	wantErr(t, "P23.1: the variables of the mode are not gone through", e, api.ErrNone)
	_, _, e = v.Next(" ", other)
	wantErr(t, "P23.1: Next", e, api.ErrArg)
	wantErr(t, "P23.1: Drop of none", v.Drop("y", other), api.ErrNone)
	wantErr(t, "P23.1: Drop of no name", v.Drop("", other), api.ErrArg)
	wantErr(t, "P23.1: Drop", v.Drop("x", other), 0)
	s.hasNot("x", other)
}

func TestVarsArgs(t *testing.T) {
	f, v := newVars(t)
	s := varsSteps{t, v}
	ask := func() {
		t.Helper()
		for _, name := range []string{"", " ", "é", strings.Repeat("x", 65)} {
			s.set("a wrong name", name, other, 3, []byte{1}, api.ErrArg)
			_, _, e := v.Get(name, other, 9)
			wantErr(t, "P23.2: Get of a wrong name", e, api.ErrArg)
		}
		_, _, e := v.Get("x", other, -1)
		wantErr(t, "P23.2: Get with less room than none", e, api.ErrArg)
		_, _, e = v.Get("SetupMode", global, -1)
		wantErr(t, "P23.2: Get with less room than none", e, api.ErrArg)
		s.set("attributes that may not be", "x", other, 1, nil, api.ErrArg)
		s.set("attributes that may not be", "db", security, 3, []byte{1}, api.ErrArg)
		s.set("attributes that may not be", "PK", global, 103, []byte{1}, api.ErrArg)
		s.set("attributes that may not be", "SetupMode", global, 1, []byte{1}, api.ErrArg)
		s.set("too much", "x", other, 3, make([]byte, 65537), api.ErrArg)
		s.set("too much", "AuditMode", global, 3, make([]byte, 65537), api.ErrArg)
	}
	ask()
	f.Arm(1, 0)
	s.set("without power", "x", other, 3, []byte{1}, api.ErrDead)
	ask()
	s.set("without power", "x", other, 3, nil, api.ErrDead)
	s.set("without power", "db", security, 39, []byte{1}, api.ErrDead)
	s.set("without power", "SetupMode", global, 3, []byte{1}, api.ErrDead)
	for _, name := range []string{"x", "SetupMode", "PK"} {
		_, need, e := v.Get(name, global, 0)
		wantErr(t, "P23.2: Get without power", e, api.ErrDead)
		if need != 0 {
			t.Errorf("R2: Get without power needs %d", need)
		}
	}
	mode, e := v.Mode()
	wantErr(t, "P23.1: Mode without power", e, api.ErrDead)
	if mode != 0 {
		t.Errorf("R2: Mode without power: %d", mode)
	}
	_, _, e = v.Next("", global)
	wantErr(t, "P23.1: Next without power", e, api.ErrDead)
	wantErr(t, "P23.1: Drop without power", v.Drop("x", other), api.ErrDead)
	room, used, e := v.Info()
	if room != 0 || used != 0 || e != api.ErrDead {
		t.Errorf("P23.1: Info without power: %d, %d, %d", room, used, e)
	}
}

func TestVarsLimits(t *testing.T) {
	f := newFlash(t, 8, 65536)
	s := varsSteps{t, openVars(t, f)}
	s.set("65484 bytes", "x", other, 3, make([]byte, 65484), 0)
	s.set("one more", "x", other, 67, []byte{1}, api.ErrArg)
	s.set("65485 bytes", "y", other, 3, make([]byte, 65485), api.ErrArg)
	s.set("65536 bytes", "y", other, 3, make([]byte, 65536), api.ErrArg)
	s.has("65484 bytes", api.Var{Name: "x", Guid: other, Attr: 3, Data: make([]byte, 65484)})
	s.set("60000 bytes", "a", other, 3, make([]byte, 60000), 0)
	s.set("60000 bytes", "b", other, 3, make([]byte, 60000), 0)
	s.set("60000 bytes", "c", other, 3, make([]byte, 60000), 0)
	s.set("what has no room", "d", other, 3, make([]byte, 60000), api.ErrFull)
	s.hasNot("d", other)
	// A signed value of 65536 bytes in all, most of which are the blob; and of one more.
	list := hashList(1, 2)
	filled := func(n int) []byte { return described(at(1), make([]byte, n-40-len(list)), list) }
	s.set("65537 bytes, signed", "db", security, 39, filled(65537), api.ErrArg)
	s.set("65536 bytes, signed", "db", security, 39, filled(65536), 0)
	// What is merged has a limit, too.
	f = newFlash(t, 8, 65536)
	s = varsSteps{t, openVars(t, f)}
	eight := certList(1, slices.Repeat([][]byte{make([]byte, 8000)}, 8)...)
	s.set("lists of 64156 bytes", "db", security, 39, described(at(1), []byte{1}, eight), 0)
	for _, n := range []int{1285, 1300, 8000} {
		s.set("lists that are too long when merged", "db", security, 103, described(at(2), []byte{1}, certList(2, make([]byte, n))), api.ErrArg)
	}
	s.has("lists", api.Var{Name: "db", Guid: security, Attr: 39, Time: at(1), Data: eight})
	s.set("lists that are long when merged", "db", security, 103, described(at(2), []byte{1}, certList(2, make([]byte, 1284))), 0)
	s.has("lists", api.Var{Name: "db", Guid: security, Attr: 39, Time: at(2), Data: slices.Concat(eight, certList(2, make([]byte, 1284)))})
}

// wantMark fails the test unless the book of a flash has that mark.
func wantMark(t *testing.T, f *flash.Flash, want uint8) {
	t.Helper()
	if got, e := openBook(t, f).Mark(); got != want || e != 0 {
		t.Errorf("P23.3: the mark is %d, %d; want %d", got, e, want)
	}
}

func TestVarsModes(t *testing.T) {
	f, v := newVars(t)
	s := varsSteps{t, v}
	for _, name := range []string{"SetupMode", "SecureBoot"} {
		for _, data := range [][]byte{nil, {1}, {0}, {1, 2}} {
			s.set(name, name, global, 3, data, api.ErrProtected)
		}
	}
	for _, name := range []string{"AuditMode", "DeployedMode"} {
		for _, data := range [][]byte{nil, {0}, {2}, {1, 1}, {1, 0}} {
			s.set(name, name, global, 3, data, api.ErrArg)
		}
	}
	s.set("DeployedMode in Setup", "DeployedMode", global, 3, []byte{1}, api.ErrProtected)
	s.mode(api.ModeSetup)
	s.set("AuditMode in Setup", "AuditMode", global, 3|4|32|64, []byte{1}, 0)
	s.mode(api.ModeAudit)
	wantMark(t, f, 1)
	s.set("AuditMode in Audit", "AuditMode", global, 3, []byte{1}, api.ErrProtected)
	s.set("DeployedMode in Audit", "DeployedMode", global, 3, []byte{1}, api.ErrProtected)
	// In Audit nobody is asked; a PK then makes it Deployed.
	s.set("PK in Audit", "PK", global, 39, described(at(1), []byte{1}, certList(1, owner.cert)), 0)
	s.mode(api.ModeDeployed)
	s.set("AuditMode in Deployed", "AuditMode", global, 3, []byte{1}, api.ErrProtected)
	s.set("DeployedMode in Deployed", "DeployedMode", global, 3, []byte{1}, api.ErrProtected)
	s.set("PK to nothing in Deployed", "PK", global, 39, owner.signed("PK", global, 39, at(2), nil), api.ErrProtected)
	s.set("db in Deployed", "db", security, 39, owner.signed("db", security, 39, at(2), hashList(1, 2)), 0)
	s.set("db to nothing in Deployed", "db", security, 39, owner.signed("db", security, 39, at(3), nil), 0)
	s.hasNot("db", security)
	s.set("KEK in Deployed", "KEK", global, 39, owner.signed("KEK", global, 39, at(2), certList(1, keeper.cert)), 0)
	s.set("KEK to nothing in Deployed", "KEK", global, 39, owner.signed("KEK", global, 39, at(3), nil), 0)
	s.hasNot("KEK", global)
	s.set("PK to nothing by nobody", "PK", global, 39, stranger.signed("PK", global, 39, at(2), nil), api.ErrSecurity)
	s.set("another PK in Deployed", "PK", global, 39, owner.signed("PK", global, 39, at(3), certList(1, stranger.cert)), 0)
	s.mode(api.ModeDeployed)
	f, s = enrolled(t)
	s.set("AuditMode in User", "AuditMode", global, 3, []byte{1}, api.ErrProtected)
	s.set("DeployedMode in User", "DeployedMode", global, 3, []byte{1}, 0)
	s.mode(api.ModeDeployed)
	wantMark(t, f, 2)
	_, s = enrolled(t)
	s.set("PK to nothing in User", "PK", global, 39, owner.signed("PK", global, 39, at(11), nil), 0)
	s.mode(api.ModeSetup)
	s.hasNot("PK", global)
	s.set("PK to nothing, once more", "PK", global, 39, owner.signed("PK", global, 39, at(12), nil), api.ErrNone)
	// These names in other spaces are no modes.
	s.set("SetupMode of another space", "SetupMode", other, 3, []byte{7}, 0)
	s.has("SetupMode of another space", api.Var{Name: "SetupMode", Guid: other, Attr: 3, Data: []byte{7}})
}

func TestVarsKeys(t *testing.T) {
	_, s := enrolled(t)
	kek, db := certList(1, keeper.cert), hashList(1, 2)
	s.has("KEK", api.Var{Name: "KEK", Guid: global, Attr: 39, Time: at(10), Data: kek})
	s.has("PK", api.Var{Name: "PK", Guid: global, Attr: 39, Time: at(10), Data: certList(1, owner.cert)})
	sec := func(what, name string, data []byte) {
		t.Helper()
		s.set(what, name, security, 39, data, api.ErrSecurity)
	}
	for _, name := range []string{"db", "dbx", "dbt"} {
		sec("by nobody", name, described(at(20), []byte{1}, db))
		sec("by a stranger", name, stranger.signed(name, security, 39, at(20), db))
		sec("by the deputy without a row", name, deputy.signed(name, security, 39, at(20), db))
		sec("no descriptor", name, []byte{1})
		sec("nothing", name, nil)
		sec("of another time", name, altered(keeper.signed(name, security, 39, at(20), db), 6, 1, 21))
		sec("of another value", name, described(at(20), keeper.blobFor(name, security, 39, at(20), db), hashList(1, 3)))
		sec("of another name", name, keeper.signed("dby", security, 39, at(20), db))
		sec("of another space", name, keeper.signed(name, global, 39, at(20), db))
		sec("of other attributes", name, keeper.signed(name, security, 103, at(20), db))
		s.hasNot(name, security)
		s.set("by the keeper", name, security, 39, keeper.signed(name, security, 39, at(20), db), 0)
		s.has("by the keeper", api.Var{Name: name, Guid: security, Attr: 39, Time: at(20), Data: db})
		sec("of the same time", name, keeper.signed(name, security, 39, at(20), hashList(1, 4)))
		sec("of an earlier time", name, keeper.signed(name, security, 39, at(19), hashList(1, 4)))
		s.set("by the owner", name, security, 39, owner.signed(name, security, 39, at(21), hashList(1, 4)), 0)
		s.set("by the deputy", name, security, 39, deputy.signed(name, security, 39, at(22), hashList(1, 5), keeper.cert), 0)
		s.has("by the deputy", api.Var{Name: name, Guid: security, Attr: 39, Time: at(22), Data: hashList(1, 5)})
		s.set("what is no list", name, security, 39, keeper.signed(name, security, 39, at(23), []byte{1}), api.ErrArg)
		s.set("to nothing", name, security, 39, keeper.signed(name, security, 39, at(24), nil), 0)
		s.hasNot(name, security)
		s.set("to nothing, once more", name, security, 39, keeper.signed(name, security, 39, at(25), nil), api.ErrNone)
		s.set("of an earlier time than what is gone", name, security, 39, keeper.signed(name, security, 39, at(1), db), 0)
	}
	for _, name := range []string{"PK", "KEK"} {
		s.set("by the keeper", name, global, 39, keeper.signed(name, global, 39, at(30), certList(2, keeper.cert)), api.ErrSecurity)
		s.set("of the same time", name, global, 39, owner.signed(name, global, 39, at(10), certList(2, keeper.cert)), api.ErrSecurity)
		s.set("other attributes", name, global, 35, owner.signed(name, global, 35, at(30), certList(2, keeper.cert)), api.ErrArg)
	}
	s.set("KEK by the owner", "KEK", global, 39, owner.signed("KEK", global, 39, at(11), hashList(1, 7)), 0)
	s.set("db by one who is KEK no more", "db", security, 39, keeper.signed("db", security, 39, at(31), db), api.ErrSecurity)
	s.set("PK that is none", "PK", global, 39, owner.signed("PK", global, 39, at(11), hashList(1, 7)), api.ErrArg)
	s.set("PK by the owner", "PK", global, 39, owner.signed("PK", global, 39, at(11), certList(1, stranger.cert)), 0)
	s.set("PK by one who is PK no more", "PK", global, 39, owner.signed("PK", global, 39, at(12), certList(1, owner.cert)), api.ErrSecurity)
	s.set("KEK to nothing by the new one", "KEK", global, 39, stranger.signed("KEK", global, 39, at(12), nil), 0)
	s.set("db by the new one, without KEK", "db", security, 39, stranger.signed("db", security, 39, at(32), db), 0)
}

func TestVarsAppend(t *testing.T) {
	_, s := enrolled(t)
	s.set("append to nothing", "db", security, 103, keeper.signed("db", security, 103, at(20), hashList(1, 2, 2)), 0)
	s.has("append to nothing", api.Var{Name: "db", Guid: security, Attr: 39, Time: at(20), Data: hashList(1, 2, 2)})
	s.set("append, not asked", "db", security, 103, stranger.signed("db", security, 103, at(21), hashList(1, 3)), api.ErrSecurity)
	s.set("append of what is no append", "db", security, 103, keeper.signed("db", security, 39, at(21), hashList(1, 3)), api.ErrSecurity)
	s.set("append, later", "db", security, 103, keeper.signed("db", security, 103, at(21), hashList(1, 2, 3)), 0)
	s.has("append, later", api.Var{Name: "db", Guid: security, Attr: 39, Time: at(21), Data: slices.Concat(hashList(1, 2, 2), hashList(1, 3))})
	s.set("append, earlier", "db", security, 103, keeper.signed("db", security, 103, at(5), hashList(2, 3)), 0)
	s.has("append, earlier", api.Var{Name: "db", Guid: security, Attr: 39, Time: at(21), Data: slices.Concat(hashList(1, 2, 2), hashList(1, 3), hashList(2, 3))})
	before := api.Var{Name: "db", Guid: security, Attr: 39, Time: at(21), Data: slices.Concat(hashList(1, 2, 2), hashList(1, 3), hashList(2, 3))}
	s.set("append of nothing", "db", security, 103, keeper.signed("db", security, 103, at(50), nil), 0)
	s.has("append of nothing: the time stays", before)
	s.set("append of nothing by nobody", "db", security, 103, stranger.signed("db", security, 103, at(50), nil), api.ErrSecurity)
	s.set("append of no lists", "db", security, 103, keeper.signed("db", security, 103, at(50), []byte{1}), api.ErrArg)
	s.set("append of the known", "db", security, 103, keeper.signed("db", security, 103, at(51), hashList(1, 3)), 0)
	before.Time = at(51)
	s.has("append of the known: the time goes on", before)
	s.set("append of nothing to nothing", "dbx", security, 103, keeper.signed("dbx", security, 103, at(51), nil), 0)
	s.hasNot("dbx", security)
	s.set("append to KEK", "KEK", global, 103, owner.signed("KEK", global, 103, at(9), certList(3, stranger.cert)), 0)
	s.has("append to KEK", api.Var{Name: "KEK", Guid: global, Attr: 39, Time: at(10), Data: slices.Concat(certList(1, keeper.cert), certList(3, stranger.cert))})
}

func TestVarsSetup(t *testing.T) {
	_, v := newVars(t)
	s := varsSteps{t, v}
	s.set("db, no descriptor, where there is none", "db", security, 39, []byte{1}, api.ErrSecurity)
	s.set("db, no descriptor, where there is none", "db", security, 103, nil, api.ErrSecurity)
	s.set("x, no descriptor, where there is none", "x", other, 35, nil, api.ErrSecurity)
	s.set("db by nobody", "db", security, 39, described(at(1), []byte{1}, hashList(1, 2)), 0)
	s.set("db once more, not later", "db", security, 39, described(at(1), []byte{1}, hashList(1, 3)), api.ErrSecurity)
	s.set("db, later", "db", security, 39, described(at(2), []byte{1}, hashList(1, 3)), 0)
	s.has("db", api.Var{Name: "db", Guid: security, Attr: 39, Time: at(2), Data: hashList(1, 3)})
	s.set("db, no descriptor", "db", security, 39, hashList(1, 3), api.ErrSecurity)
	s.set("db of one byte", "db", security, 39, []byte{1}, api.ErrSecurity)
	s.set("db of no lists", "db", security, 39, described(at(3), []byte{1}, []byte{1}), api.ErrArg)
	s.set("db to nothing", "db", security, 39, described(at(3), []byte{1}, nil), 0)
	s.hasNot("db", security)
	s.set("a PK of a key that may not be", "PK", global, 39, described(at(3), []byte{1}, certList(1, plainCert("a", "b", someKey).bytes())), api.ErrArg)
	s.mode(api.ModeSetup)
}

func TestVarsOwned(t *testing.T) {
	_, v := newVars(t)
	s := varsSteps{t, v}
	g := other
	by := func(p *person, attr uint32, sec int, value ...byte) []byte {
		return p.signed("x", g, attr, at(sec), value)
	}
	want := api.Var{Name: "x", Guid: g, Attr: 35, Time: at(5), Data: []byte{1}}
	ownerOf := func(p *person) [32]byte { return sum(p.cert) }
	s.set("by nobody, in Setup too", "x", g, 35, described(at(5), []byte{1}, []byte{1}), api.ErrSecurity)
	s.set("by a stranger", "x", g, 35, by(stranger, 35, 5, 1), 0)
	want.Owner = ownerOf(stranger)
	s.has("by a stranger", want)
	s.set("by another one", "x", g, 35, by(owner, 35, 6, 2), api.ErrSecurity)
	s.set("of the same time", "x", g, 35, by(stranger, 35, 5, 2), api.ErrSecurity)
	s.set("other attributes", "x", g, 39, by(stranger, 39, 6, 2), api.ErrArg)
	s.set("without a signature", "x", g, 3, []byte{2}, api.ErrArg)
	s.set("to nothing by another one", "x", g, 35, by(owner, 35, 6), api.ErrSecurity)
	s.set("append by another one", "x", g, 99, by(owner, 99, 6, 2), api.ErrSecurity)
	s.set("append, earlier", "x", g, 99, by(stranger, 99, 4, 2), 0)
	want.Data = []byte{1, 2}
	s.has("append, earlier", want)
	s.set("append, later", "x", g, 99, by(stranger, 99, 7, 2), 0)
	want.Data, want.Time = []byte{1, 2, 2}, at(7)
	s.has("append, later", want)
	s.set("append of nothing", "x", g, 99, by(stranger, 99, 9), 0)
	s.has("append of nothing", want)
	s.set("another value", "x", g, 35, by(stranger, 35, 8, 9), 0)
	want.Data, want.Time = []byte{9}, at(8)
	s.has("another value", want)
	s.set("to nothing", "x", g, 35, by(stranger, 35, 9), 0)
	s.hasNot("x", g)
	s.set("to nothing once more", "x", g, 35, by(stranger, 35, 10), api.ErrNone)
	s.set("by another one, when it is gone", "x", g, 35, by(owner, 35, 1, 7), 0)
	want.Data, want.Time, want.Owner = []byte{7}, at(1), ownerOf(owner)
	s.has("by another one", want)
	s.set("plain, then signed", "y", g, 3, []byte{1}, 0)
	s.set("plain, then signed", "y", g, 35, owner.signed("y", g, 35, at(1), []byte{1}), api.ErrArg)
	wantErr(t, "P23.1: Drop of what is owned", v.Drop("x", g), 0)
	s.hasNot("x", g)
}

// What the store has, if a record of it says nothing.
func TestVarsForm(t *testing.T) {
	f, s := enrolled(t)
	store, _ := nvram.Open(f)
	store.Set(append(bytes.Clone(other[:]), 'x'), []byte{1})
	_, need, e := s.v.Get("x", other, 9)
	wantErr(t, "P23.2: the book's error", e, api.ErrForm)
	s.set("the book's error", "x", other, 3, []byte{1}, api.ErrForm)
	store.Set([]byte("mark"), nil)
	mode, e := s.v.Mode()
	wantErr(t, "P23.1: the book's error", e, api.ErrForm)
	_, room, e := s.v.Get("SecureBoot", global, 9)
	wantErr(t, "P23.2: the book's error", e, api.ErrForm)
	if mode != 0 || need != 0 || room != 0 {
		t.Errorf("R2: something beside an error: %d, %d, %d", mode, need, room)
	}
	s.set("the book's error", "SetupMode", global, 3, []byte{1}, api.ErrForm)
	s.set("the book's error", "db", security, 39, keeper.signed("db", security, 39, at(20), hashList(1, 2)), api.ErrForm)
	store.Delete([]byte("mark"))
	s.mode(api.ModeUser)
	store.Set(append(bytes.Clone(global[:]), "KEK"...), []byte{1})
	s.set("the book's error", "db", security, 39, keeper.signed("db", security, 39, at(20), hashList(1, 2)), api.ErrForm)
	store.Set(append(bytes.Clone(global[:]), "PK"...), []byte{1})
	mode, e = s.v.Mode()
	wantErr(t, "P23.1: the book's error", e, api.ErrForm)
	if mode != 0 {
		t.Errorf("R2: Mode with an error: %d", mode)
	}
}

// Wherever the power goes in a Set or a Drop, all is as ahead of it or as it would be.
func TestVarsLosses(t *testing.T) {
	f := newFlash(t, 4, 2048) // so small that banks are copied often
	s := varsSteps{t, openVars(t, f)}
	calls := []func() api.Errno{
		func() api.Errno { return s.v.Set("x", other, 3, bytes.Repeat([]byte{1}, 300)) },
		func() api.Errno {
			return s.v.Set("PK", global, 39, owner.signed("PK", global, 39, at(1), certList(1, owner.cert)))
		},
		func() api.Errno {
			return s.v.Set("db", security, 39, owner.signed("db", security, 39, at(2), hashList(1, 2)))
		},
		func() api.Errno { return s.v.Set("x", other, 67, bytes.Repeat([]byte{2}, 500)) },
		func() api.Errno {
			return s.v.Set("db", security, 103, owner.signed("db", security, 103, at(3), hashList(1, 3)))
		},
		func() api.Errno { return s.v.Set("DeployedMode", global, 3, []byte{1}) },
		func() api.Errno { return s.v.Set("x", other, 3, bytes.Repeat([]byte{3}, 700)) },
		func() api.Errno {
			return s.v.Set("db", security, 39, owner.signed("db", security, 39, at(4), nil))
		},
		func() api.Errno { return s.v.Drop("x", other) },
	}
	show := func() string {
		var out []string
		mode, e := s.v.Mode()
		out = append(out, fmt.Sprint(mode, e))
		n, g, e := s.v.Next("", api.Guid{})
		for ; e == 0; n, g, e = s.v.Next(n, g) {
			x, _, _ := s.v.Get(n, g, 1<<20)
			out = append(out, fmt.Sprint(x))
		}
		return strings.Join(out, "\n")
	}
	r := random(26)
	for i, call := range calls {
		before := show()
		for n := 1; ; n += 1 + r.Intn(25) {
			f.Arm(n, r.Intn(2100))
			e := call()
			if e != api.ErrDead {
				wantErr(t, fmt.Sprint("P23.5: the call ", i), e, 0)
				break
			}
			f.On()
			s.v = openVars(t, f)
			if now := show(); now != before {
				wantErr(t, "P23.5: the same call behind itself", f.Arm(0, 0), 0)
				before = now
				break
			}
		}
		f.Arm(0, 0)
		if show() == before && i == 0 {
			t.Errorf("P23.5: nothing is done")
		}
	}
	s.mode(api.ModeDeployed)
	s.hasNot("x", other)
	s.hasNot("db", security)
}
