package checks

import (
	"bytes"
	"fmt"
	"math"
	"strings"
	"testing"

	"lintel/api"
	"lintel/machine"
)

func newMachine(t *testing.T, sectors, size int) *machine.Machine {
	t.Helper()
	m, e := machine.New(sectors, size)
	if m == nil || e != 0 {
		t.Fatalf("P27.1: New(%d, %d): %d", sectors, size, e)
	}
	return m
}

func wantTold(t *testing.T, what string, m *machine.Machine, c api.Call, want api.Told) api.Told {
	t.Helper()
	path, data := roomy(c.Path), roomy(c.Data)
	in := c
	in.Path, in.Data = path, data
	got := m.Do(in)
	if fmt.Sprint(got) != fmt.Sprint(want) {
		t.Errorf("P27.2: %s: %v, want %v", what, got, want)
	}
	untouched(t, "R3: Do", path, c.Path)
	untouched(t, "R3: Do", data, c.Data)
	spoil(path)
	spoil(data)
	return got
}

func TestMachineNew(t *testing.T) {
	for _, c := range [][2]int{{0, 4096}, {65, 4096}, {2, 15}, {2, 65537}, {3, 4096}, {1, 4096}, {2, 32}} {
		if m, e := machine.New(c[0], c[1]); m != nil || e != api.ErrArg {
			t.Errorf("P27.1: New(%d, %d): %d", c[0], c[1], e)
		}
	}
	m := newMachine(t, 2, 64)
	equal(t, "P27.1: Flash", m.Flash(), append(append(rawHead(1), 0xfe), ff(128-13)...))
	spoil(m.Flash())
	equal(t, "R3: Flash", m.Flash(), append(append(rawHead(1), 0xfe), ff(128-13)...))
	var none *machine.Machine
	if len(none.Flash()) != 0 {
		t.Errorf("R4: Flash of none")
	}
	if got := none.Do(api.Call{Kind: api.CallMode}); fmt.Sprint(got) != fmt.Sprint(api.Told{Err: api.ErrNil}) {
		t.Errorf("R4: Do of none: %v", got)
	}
}

func call(kind uint8) api.Call { return api.Call{Kind: kind} }

func setCall(name string, g api.Guid, attr uint32, data []byte) api.Call {
	return api.Call{Kind: api.CallSet, Name: name, Guid: g, Attr: attr, Data: data}
}

func getCall(name string, g api.Guid, room int) api.Call {
	return api.Call{Kind: api.CallGet, Name: name, Guid: g, N: room}
}

// The ten examples of the whole, and those of the chapter.
func TestMachineExamples(t *testing.T) {
	m := newMachine(t, 2, 4096)
	fresh := func() { m = newMachine(t, 2, 4096) }
	told := func(what string, c api.Call, want api.Told) {
		t.Helper()
		wantTold(t, what, m, c, want)
	}
	zero := api.Guid{}
	told("example 1", call(api.CallMode), api.Told{})
	told("example 1", getCall("SetupMode", global, 1), api.Told{N: 1, Attr: 6, Data: []byte{1}})
	told("example 1", getCall("SecureBoot", global, 1), api.Told{N: 1, Attr: 6, Data: []byte{0}})
	told("example 2", setCall("x", zero, 3, []byte{5}), api.Told{})
	told("example 2", getCall("x", zero, 0), api.Told{Err: api.ErrSmall, N: 1})
	told("example 2", getCall("x", zero, 1), api.Told{N: 1, Attr: 3, Data: []byte{5}})
	fresh()
	told("example 3", setCall("db", security, 3, []byte{1}), api.Told{Err: api.ErrArg})
	told("example 3", setCall("db", security, 39, []byte{1}), api.Told{Err: api.ErrSecurity})
	fresh()
	told("example 4", setCall("DeployedMode", global, 3, []byte{1}), api.Told{Err: api.ErrProtected})
	told("example 4", setCall("AuditMode", global, 3, []byte{1}), api.Told{})
	told("example 4", call(api.CallMode), api.Told{N: 2})
	told("example 4", setCall("AuditMode", global, 3, []byte{1}), api.Told{Err: api.ErrProtected})
	fresh()
	told("example 5", setCall("x", zero, 3, []byte{5}), api.Told{})
	told("example 5", api.Call{Kind: api.CallArm, N: 1}, api.Told{})
	told("example 5", setCall("x", zero, 3, []byte{6}), api.Told{Err: api.ErrDead})
	told("example 5", call(api.CallMode), api.Told{Err: api.ErrDead})
	told("example 5", call(api.CallReset), api.Told{})
	told("example 5", getCall("x", zero, 9), api.Told{N: 1, Attr: 3, Data: []byte{5}})
	fresh()
	told("example 6", call(api.CallBoot), api.Told{Err: api.ErrNone})
	told("example 7", setCall("BootOrder", global, 7, []byte{1, 0}), api.Told{})
	told("example 7", call(api.CallBoot), api.Told{Err: api.ErrNone, Tries: []api.Try{{Number: 1, Err: api.ErrNone}}})
	fresh()
	told("example 8", setCall("y", zero, 3, make([]byte, 3900)), api.Told{})
	told("example 8", setCall("z", zero, 3, make([]byte, 100)), api.Told{Err: api.ErrFull})
	told("example 8", call(api.CallInfo), api.Told{N: 4080, Attr: 3981})
	fresh()
	told("example 9", setCall("x", zero, 3, []byte{5}), api.Told{})
	told("example 9", call(api.CallNext), api.Told{Name: "x"})
	told("example 9", api.Call{Kind: api.CallNext, Name: "x"}, api.Told{Err: api.ErrNone})
	told("example 10", call(api.CallCheck), api.Told{Err: api.ErrForm})
	for _, kind := range []uint8{0, 11, 99, 255} {
		told("example 10", call(kind), api.Told{Err: api.ErrArg})
	}
}

func TestMachineImages(t *testing.T) {
	m := newMachine(t, 2, 4096)
	put := func(path string, data []byte) api.Errno {
		t.Helper()
		return m.Do(api.Call{Kind: api.CallImage, Path: []byte(path), Data: data}).Err
	}
	wantErr(t, "P27.2: a path of 256 bytes", put(strings.Repeat("p", 256), nil), 0)
	wantErr(t, "P27.2: a path of 257 bytes", put(strings.Repeat("p", 257), nil), api.ErrArg)
	wantErr(t, "P27.2: an image of 2^24 bytes", put("", make([]byte, 1<<24)), 0)
	wantErr(t, "P27.2: an image of 2^24 + 1 bytes", put("", make([]byte, 1<<24+1)), api.ErrArg)
	for i := range 14 {
		wantErr(t, "P27.2: CallImage", put(fmt.Sprint(i), []byte{1}), 0)
	}
	wantErr(t, "P27.2: a 17th path", put("more", nil), api.ErrFull)
	wantErr(t, "P27.2: a path of 257 bytes, and no room", put(strings.Repeat("p", 257), nil), api.ErrArg)
	x := image(3, nil)
	wantErr(t, "P27.2: a path that is there", put("7", x), 0)
	wantTold(t, "an option", m, setCall("Boot0001", global, 7, optionBytes(1, "", []byte("7"), nil)), api.Told{})
	wantTold(t, "an option", m, setCall("Boot0002", global, 7, optionBytes(1, "", nil, nil)), api.Told{})
	wantTold(t, "BootOrder", m, setCall("BootOrder", global, 7, order(2, 1)), api.Told{})
	wantErr(t, "P27.2: an image at the empty path", put("", []byte{1}), 0)
	boot := api.Told{Tries: []api.Try{{Number: 2, Err: api.ErrForm}, {Number: 1}}, Data: []byte("7")}
	got := wantTold(t, "CallBoot", m, call(api.CallBoot), boot)
	spoil(got.Data)
	wantTold(t, "CallBoot once more", m, call(api.CallBoot), boot)
	wantTold(t, "CallArm", m, api.Call{Kind: api.CallArm, N: 1}, api.Told{})
	wantTold(t, "CallSet", m, setCall("x", other, 3, x), api.Told{Err: api.ErrDead})
	wantTold(t, "CallBoot without power", m, call(api.CallBoot), api.Told{Err: api.ErrDead})
	wantErr(t, "P27.2: CallImage without power", put("", x), 0)
	spoil(x)
	wantTold(t, "CallReset", m, call(api.CallReset), api.Told{})
	wantTold(t, "images stay", m, call(api.CallBoot), api.Told{Tries: []api.Try{{Number: 2}}})
}

func TestMachineWithoutPower(t *testing.T) {
	m := newMachine(t, 2, 4096)
	wantTold(t, "CallSet", m, setCall("x", other, 3, []byte{5}), api.Told{})
	wantTold(t, "CallArm below 0", m, api.Call{Kind: api.CallArm, N: -1}, api.Told{Err: api.ErrArg})
	wantTold(t, "CallArm of a part below 0", m, api.Call{Kind: api.CallArm, Part: -1}, api.Told{Err: api.ErrArg})
	wantTold(t, "CallArm", m, api.Call{Kind: api.CallArm, N: 20}, api.Told{})
	wantTold(t, "CallSet", m, setCall("x", other, 3, []byte{6}), api.Told{Err: api.ErrDead})
	dead := api.Told{Err: api.ErrDead}
	for _, c := range []api.Call{setCall("x", other, 3, []byte{6}), getCall("x", other, 9), getCall("SetupMode", global, 9), call(api.CallNext), call(api.CallInfo), call(api.CallMode), call(api.CallCheck), call(api.CallBoot), {Kind: api.CallArm, N: -1}, {Kind: api.CallCheck, Data: image(1, nil)}} {
		wantTold(t, fmt.Sprint("without power, ", c.Kind), m, c, dead)
	}
	arg := api.Told{Err: api.ErrArg}
	for _, c := range []api.Call{setCall("", other, 3, nil), setCall("x", other, 1, nil), getCall("x", other, -1), {Kind: api.CallNext, Name: " "}, call(99), {Kind: api.CallReset, N: -1}, {Kind: api.CallReset, Part: math.MinInt}, {Kind: api.CallImage, Path: make([]byte, 257)}} {
		wantTold(t, fmt.Sprint("without power, but wrong, ", c.Kind), m, c, arg)
	}
	before := m.Flash()
	wantTold(t, "a wrong reset does nothing", m, call(api.CallMode), dead)
	wantTold(t, "CallReset", m, call(api.CallReset), api.Told{})
	equal(t, "P27.2: a reset alone writes nothing here", m.Flash(), before)
	wantTold(t, "CallGet", m, getCall("x", other, 9), api.Told{N: 1, Attr: 3, Data: []byte{5}})
	wantTold(t, "CallReset that arms", m, api.Call{Kind: api.CallReset, N: 1}, api.Told{})
	wantTold(t, "it is armed", m, setCall("x", other, 3, []byte{6}), dead)
	wantTold(t, "CallReset that arms", m, api.Call{Kind: api.CallReset, N: 1}, api.Told{})
	wantTold(t, "CallReset with power that arms no more", m, call(api.CallReset), api.Told{})
	wantTold(t, "it is not armed", m, setCall("x", other, 3, []byte{6}), api.Told{})
}

// A reset that loses the power in opening answers so, and another one goes on.
func TestMachineResetLosesPower(t *testing.T) {
	m := newMachine(t, 2, 4096)
	wantTold(t, "CallSet", m, setCall("x", other, 3, []byte{5}), api.Told{})
	// The new record lives, and the old one is not killed: opening does that.
	need := 12 + 16 + 1 + 52 + 1
	wantTold(t, "CallArm", m, api.Call{Kind: api.CallArm, N: need + 2}, api.Told{})
	wantTold(t, "CallSet", m, setCall("x", other, 3, []byte{6}), api.Told{Err: api.ErrDead})
	wantTold(t, "a reset that loses the power", m, api.Call{Kind: api.CallReset, N: 1}, api.Told{Err: api.ErrDead})
	wantTold(t, "without power", m, call(api.CallMode), api.Told{Err: api.ErrDead})
	wantTold(t, "CallReset", m, api.Call{Kind: api.CallReset, N: 2}, api.Told{})
	wantTold(t, "as it would have made it", m, getCall("x", other, 1), api.Told{N: 1, Attr: 3, Data: []byte{6}})
	if !bytes.Contains(m.Flash(), []byte{0xf8, 0xa5}) {
		t.Errorf("P27.2: nothing was killed")
	}
}
