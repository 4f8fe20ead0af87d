package checks

import (
	"bytes"
	"fmt"
	"math/rand"
	"slices"
	"testing"

	"lintel/api"
	"lintel/machine"
)

// world is a model of a machine: what the chapters say of a script's calls, without a flash.
type world struct {
	vars   map[string]api.Var // by space and name
	mark   int                // below 0: none was made
	images map[string]picture
	room   int
}

// picture is an image, and what a test knows of it.
type picture struct {
	raw    []byte
	digest [32]byte
	reach  [][]byte // the certificates that its right signers' rows come to
}

// claim is what a test knows of the data of a set with a signature.
type claim struct {
	form  bool // whether there is a descriptor
	time  api.Time
	value []byte
	who   *person  // who signed just what is set; nobody: nil
	reach [][]byte // the certificates that lead from there
}

func (w *world) clone() *world {
	c := &world{vars: map[string]api.Var{}, mark: w.mark, images: map[string]picture{}, room: w.room}
	for k, v := range w.vars {
		c.vars[k] = v
	}
	for k, v := range w.images {
		c.images[k] = v
	}
	return c
}

func (w *world) mode() uint8 {
	_, pk := w.vars[string(global[:])+"PK"]
	switch {
	case pk && w.mark <= 0:
		return api.ModeUser
	case pk:
		return api.ModeDeployed
	case w.mark == 1:
		return api.ModeAudit
	}
	return api.ModeSetup
}

func (w *world) secure() bool { return w.mode() == api.ModeUser || w.mode() == api.ModeDeployed }

func (w *world) used() int {
	n := 0
	for _, v := range w.vars {
		n += 81 + len(v.Name) - 1 + len(v.Data)
	}
	if w.mark >= 0 {
		n += 17
	}
	return n
}

func (w *world) setMark(x int) api.Errno {
	if w.used()+17 > w.room {
		return api.ErrFull
	}
	w.mark = x
	return 0
}

func (w *world) put(v api.Var) api.Errno {
	v.Attr &^= 64
	if len(v.Data) > 65484 {
		return api.ErrArg
	}
	if w.used()+80+len(v.Name)+len(v.Data) > w.room {
		return api.ErrFull
	}
	w.vars[string(v.Guid[:])+v.Name] = v
	return 0
}

func (w *world) drop(key string) api.Errno {
	if _, ok := w.vars[key]; !ok {
		return api.ErrNone
	}
	delete(w.vars, key)
	return 0
}

var keyNames = map[string]uint8{
	string(global[:]) + "PK": 1, string(global[:]) + "KEK": 2, string(security[:]) + "db": 3, string(security[:]) + "dbx": 3, string(security[:]) + "dbt": 3,
	string(global[:]) + "SetupMode": 4, string(global[:]) + "SecureBoot": 4, string(global[:]) + "AuditMode": 4, string(global[:]) + "DeployedMode": 4,
}

func (w *world) set(c api.Call, s claim) api.Errno {
	key := string(c.Guid[:]) + c.Name
	kind := keyNames[key]
	if c.Name == "" || bytes.ContainsAny([]byte(c.Name), " ") || !fitsModel(kind, c.Attr) {
		return api.ErrArg
	}
	if kind == 4 {
		return w.setMode(c)
	}
	old, there := w.vars[key]
	if there && old.Attr != c.Attr&^64 {
		return api.ErrArg
	}
	v := api.Var{Name: c.Name, Guid: c.Guid, Attr: c.Attr}
	if kind > 0 || c.Attr&32 != 0 {
		return w.setSigned(c, s, v, old, there, kind)
	}
	if len(c.Data) == 0 && c.Attr&64 == 0 {
		return w.drop(key)
	}
	if len(c.Data) == 0 {
		return 0
	}
	v.Data = c.Data
	if c.Attr&64 != 0 {
		v.Data = slices.Concat(old.Data, c.Data)
	}
	return w.put(v)
}

func (w *world) setMode(c api.Call) api.Errno {
	switch {
	case c.Name == "SetupMode" || c.Name == "SecureBoot":
		return api.ErrProtected
	case len(c.Data) != 1 || c.Data[0] != 1:
		return api.ErrArg
	case c.Name == "AuditMode" && w.mode() == api.ModeSetup:
		return w.setMark(1)
	case c.Name == "DeployedMode" && w.mode() == api.ModeUser:
		return w.setMark(2)
	}
	return api.ErrProtected
}

// trusts says whether a list of keys has one of a claim's certificates.
func (w *world) trusts(name string, s claim) bool {
	keys, ok := w.vars[string(global[:])+name]
	return ok && slices.ContainsFunc(s.reach, func(c []byte) bool { return bytes.Contains(keys.Data, c) })
}

func (w *world) setSigned(c api.Call, s claim, v, old api.Var, there bool, kind uint8) api.Errno {
	more := c.Attr&64 != 0
	if !s.form || there && !more && !clock(old.Time).Before(clock(s.time)) {
		return api.ErrSecurity
	}
	switch {
	case kind == 0:
		if s.who == nil || there && old.Owner != sum(s.who.cert) {
			return api.ErrSecurity
		}
		v.Owner = sum(s.who.cert)
	case w.secure() && !(s.who != nil && (w.trusts("PK", s) || kind == 3 && w.trusts("KEK", s))):
		return api.ErrSecurity
	}
	v.Time, v.Data = s.time, s.value
	if len(s.value) == 0 {
		switch {
		case more:
			return 0
		case there && kind == 1 && w.mode() == api.ModeDeployed:
			return api.ErrProtected
		}
		return w.drop(string(c.Guid[:]) + c.Name)
	}
	if kind > 0 && len(s.value) < 44 || kind == 1 && !bytes.HasPrefix(s.value, unhex(listGuids[api.KindCert])) { // the tests have no other values that are wrong
		return api.ErrArg
	}
	if more && there {
		v.Data = slices.Concat(old.Data, s.value)
		if kind > 0 {
			v.Data = mergeModel(old.Data, s.value)
		}
		if clock(s.time).Before(clock(old.Time)) {
			v.Time = old.Time
		}
	}
	return w.put(v)
}

// mergeModel is the merging of lists of one item each, as the tests have them.
func mergeModel(old, more []byte) []byte {
	for len(more) > 0 {
		n := int(more[16]) | int(more[17])<<8
		if !bytes.Contains(old, more[:n]) {
			old = slices.Concat(old, more[:n])
		}
		more = more[n:]
	}
	return old
}

// judge is what W1 says of an image.
func (w *world) judge(raw []byte) api.Errno {
	var x *picture
	for _, p := range pictures() {
		if bytes.Equal(p.raw, raw) {
			x = &p
		}
	}
	if x == nil {
		return api.ErrForm
	}
	if !w.secure() {
		return 0
	}
	has := func(name string) bool {
		data := w.vars[string(security[:])+name].Data
		part := func(c []byte) bool { p := partOf(c); return bytes.Contains(data, c) || bytes.Contains(data, p[:]) }
		return bytes.Contains(data, x.digest[:]) || slices.ContainsFunc(x.reach, part)
	}
	if has("dbx") || !has("db") {
		return api.ErrDenied
	}
	return 0
}

func (w *world) boot() api.Told {
	var numbers []uint16
	add := func(b []byte) {
		for i := 0; i+1 < len(b) && len(b)%2 == 0; i += 2 {
			numbers = append(numbers, uint16(b[i])|uint16(b[i+1])<<8)
		}
	}
	if next, ok := w.vars[string(global[:])+"BootNext"]; ok {
		delete(w.vars, string(global[:])+"BootNext")
		if len(next.Data) == 2 {
			add(next.Data)
		}
	}
	add(w.vars[string(global[:])+"BootOrder"].Data)
	told := api.Told{Err: api.ErrNone}
	for _, n := range numbers {
		path, e := w.try(n)
		told.Tries = append(told.Tries, api.Try{Number: n, Err: e})
		if e == 0 {
			told.Err, told.Data = 0, []byte(path)
			break
		}
	}
	return told
}

// try knows options as bootOption makes them: a path of one byte.
func (w *world) try(n uint16) (string, api.Errno) {
	o, ok := w.vars[string(global[:])+fmt.Sprintf("Boot%04X", n)]
	switch {
	case !ok:
		return "", api.ErrNone
	case len(o.Data) != 9:
		return "", api.ErrForm
	case o.Data[0]&1 == 0:
		return "", api.ErrState
	}
	x, ok := w.images[string(o.Data[8:])]
	if !ok {
		return "", api.ErrNone
	}
	return string(o.Data[8:]), w.judge(x.raw)
}

func bootOption(attr byte, path byte) []byte {
	return optionBytes(uint32(attr), "", []byte{path}, nil)
}

var allPictures []picture

// pictures are the images of these tests; what is none comes to ErrForm.
func pictures() []picture {
	if allPictures == nil {
		d := imageDigest
		allPictures = []picture{
			{image(1, nil), d(1), nil},
			{image(2, nil, owner), d(2), [][]byte{owner.cert}},
			{image(3, [][]byte{keeper.cert}, deputy), d(3), [][]byte{deputy.cert, keeper.cert}},
			{image(4, nil, stranger, owner), d(4), [][]byte{stranger.cert, owner.cert}},
			{image(5, nil, deputy), d(5), [][]byte{deputy.cert}},
		}
	}
	return allPictures
}

// step is a call, and what is known of its data.
type step struct {
	call  api.Call
	claim claim
}

// someStep is any call but resets and arms.
func someStep(r *rand.Rand, w *world) step {
	pics := pictures()
	switch r.Intn(14) {
	case 0:
		return step{call: call(api.CallBoot)}
	case 1:
		raw := [][]byte{pics[r.Intn(5)].raw, {1, 2, 3}}[min(1, r.Intn(5)/4)]
		return step{call: api.Call{Kind: api.CallCheck, Data: raw}}
	case 2:
		raw := [][]byte{pics[r.Intn(5)].raw, {1, 2, 3}}[min(1, r.Intn(5)/4)]
		return step{call: api.Call{Kind: api.CallImage, Path: []byte{byte('a' + r.Intn(4))}, Data: raw}}
	case 3:
		name := []string{"BootOrder", "BootNext"}[r.Intn(2)]
		return step{call: setCall(name, global, 7, [][]byte{order(1, 2, 3), order(3), order(2, 9, 1), {1}, nil, order(2, 1)}[r.Intn(6)])}
	case 4:
		data := [][]byte{bootOption(1, 'a'), bootOption(1, 'b'), bootOption(3, 'c'), bootOption(0, 'a'), {1, 2, 3}, nil}[r.Intn(6)]
		return step{call: setCall([]string{"Boot0001", "Boot0002", "Boot0003"}[r.Intn(3)], global, 7, data)}
	case 5:
		name := []string{"AuditMode", "DeployedMode", "DeployedMode", "SetupMode", "SecureBoot"}[r.Intn(5)]
		return step{call: setCall(name, global, 3, [][]byte{{1}, {1}, {1}, nil, {0}}[r.Intn(5)])}
	case 6, 7:
		attr := []uint32{3, 3, 67, 7, 1}[r.Intn(5)]
		return step{call: setCall([]string{"x", "y", "a b"}[r.Intn(15)/7], other, attr, someBytes(r, []int{0, 1, 50, r.Intn(1500)}[r.Intn(4)]))}
	}
	return signedStep(r, w)
}

// signedStep is a set with a signature, mostly of a time that is later.
func signedStep(r *rand.Rand, w *world) step {
	x := []struct {
		name string
		g    api.Guid
	}{{"PK", global}, {"KEK", global}, {"db", security}, {"db", security}, {"dbx", security}, {"dbt", security}, {"own", other}}[r.Intn(7)]
	attr := []uint32{39, 39, 103}[r.Intn(3)]
	if x.name == "PK" {
		attr = []uint32{39, 39, 39, 39, 103, 7}[r.Intn(6)]
	}
	pics := pictures()
	certs := certList(1, []*person{owner, keeper, deputy, stranger}[r.Intn(4)].cert)
	value := [][]byte{certs, certs, digestList(pics[r.Intn(5)].digest), sumList(1, partOf(keeper.cert)), nil}[r.Intn(5)]
	if x.name == "PK" && r.Intn(3) > 0 {
		value = certList(1, owner.cert)
	}
	if x.name == "KEK" && r.Intn(2) > 0 {
		value = certList(1, keeper.cert)
	}
	if r.Intn(12) == 0 {
		value = []byte{1}
	}
	old := w.vars[string(x.g[:])+x.name]
	when := at(int(old.Time.Minute)*60 + int(old.Time.Second) + []int{1, 1, 1, 2, 0, -1}[r.Intn(6)])
	if when.Second > 59 || when.Minute > 59 {
		when = at(1)
	}
	s := claim{form: true, time: when, value: value}
	who := []*person{owner, owner, keeper, deputy, stranger, nil}[r.Intn(6)]
	data := described(when, []byte{1}, value)
	switch {
	case r.Intn(15) == 0:
		s.form, data = false, someBytes(r, r.Intn(5))
	case who == deputy:
		s.who, s.reach = who, [][]byte{deputy.cert, keeper.cert}
		data = who.signed(x.name, x.g, attr, when, value, keeper.cert)
	case who != nil:
		s.who, s.reach = who, [][]byte{who.cert}
		data = who.signed(x.name, x.g, attr, when, value)
		if r.Intn(10) == 0 { // a blob over something else
			s.who, s.reach = nil, nil
			data = described(when, who.blobFor(x.name, x.g, attr^64, when, value), value)
		}
	}
	return step{setCall(x.name, x.g, attr, data), s}
}

// do is what the model tells of a step; it does it.
func (w *world) do(s step) api.Told {
	switch s.call.Kind {
	case api.CallSet:
		return api.Told{Err: w.set(s.call, s.claim)}
	case api.CallBoot:
		return w.boot()
	case api.CallCheck:
		return api.Told{Err: w.judge(s.call.Data)}
	}
	w.images[string(s.call.Path)] = picture{raw: s.call.Data}
	return api.Told{}
}

// told is all that can be asked of a machine, as text; of a model likewise.
func (w *world) told() string {
	var keys []string
	for k := range w.vars {
		keys = append(keys, k)
	}
	slices.Sort(keys)
	out := fmt.Sprint(w.mode(), w.used(), w.room)
	for _, k := range keys {
		v := w.vars[k]
		out += fmt.Sprintf("\n%x %q %d %x", v.Guid, v.Name, v.Attr, v.Data)
	}
	return out
}

func machineTold(t *testing.T, m *machine.Machine) string {
	t.Helper()
	mode, info := m.Do(call(api.CallMode)), m.Do(call(api.CallInfo))
	out := fmt.Sprint(mode.N, info.Attr, info.N)
	x := m.Do(call(api.CallNext))
	for ; x.Err == 0; x = m.Do(api.Call{Kind: api.CallNext, Name: x.Name, Guid: x.Guid}) {
		v := m.Do(getCall(x.Name, x.Guid, 1<<16))
		wantErr(t, "W3: CallGet", v.Err, 0)
		out += fmt.Sprintf("\n%x %q %d %x", x.Guid, x.Name, v.Attr, v.Data)
	}
	wantErr(t, "W3: CallNext", x.Err, api.ErrNone)
	return out
}

// reckon counts what a row of calls came to, so that a test sees whether it asked for everything.
type reckon map[string]int

func (k reckon) add(s step, told api.Told, mode uint8) {
	k[fmt.Sprint("call ", s.call.Kind, " error ", int(told.Err))]++
	k[fmt.Sprint("mode ", mode)]++
	if s.call.Kind == api.CallBoot && len(told.Tries) > 1 && told.Err == 0 {
		k["a boot of a later option"]++
	}
}

func (k reckon) want(t *testing.T, least int, names ...string) {
	t.Helper()
	for _, n := range names {
		if k[n] < least {
			t.Errorf("%s: only %d times", n, k[n])
		}
	}
}

// firstSteps lay images and options, so that there is something to boot.
func firstSteps(r *rand.Rand) []step {
	steps := []step{{call: setCall("BootOrder", global, 7, order(3, 1, 2))}}
	for i := range 4 {
		steps = append(steps, step{call: api.Call{Kind: api.CallImage, Path: []byte{byte('a' + i)}, Data: pictures()[r.Intn(5)].raw}})
	}
	for i, name := range []string{"Boot0001", "Boot0002", "Boot0003"} {
		steps = append(steps, step{call: setCall(name, global, 7, bootOption(1, byte('a'+i)))})
	}
	return append(steps, step{call: call(api.CallBoot)}, step{call: setCall("BootNext", global, 7, order(2))})
}

// W3, and with it W1, W2 and W5: without losses of power all answers are those of the model.
func TestWholeIsTheModel(t *testing.T) {
	r := random(30)
	k := reckon{}
	for range 12 {
		m := newMachine(t, 4, 3072)
		w := &world{vars: map[string]api.Var{}, mark: -1, images: map[string]picture{}, room: 6128}
		for i := range 170 {
			s := someStep(r, w)
			if i < 10 {
				s = firstSteps(r)[i]
			}
			want := w.do(s)
			got := m.Do(s.call)
			if fmt.Sprint(got) != fmt.Sprint(want) {
				t.Fatalf("W3: %d %q attributes %d: %v, want %v", s.call.Kind, s.call.Name, s.call.Attr, got, want)
			}
			k.add(s, got, w.mode())
			if r.Intn(10) == 0 {
				wantErr(t, "W3: a reset", m.Do(call(api.CallReset)).Err, 0)
			}
			if got, want := machineTold(t, m), w.told(); got != want {
				t.Fatalf("W3: behind %d %q: %s\nwant %s", s.call.Kind, s.call.Name, got, want)
			}
		}
	}
	k.want(t, 5, "call 1 error 0", "call 1 error 1", "call 1 error 3", "call 1 error 5", "call 1 error 7", "call 1 error 8", "call 7 error 0", "call 7 error 3", "call 10 error 0", "call 10 error 13", "call 10 error 9", "mode 0", "mode 1", "mode 2", "mode 3")
	k.want(t, 2, "a boot of a later option")
}

// W4: wherever the power goes, all is as ahead of the call that was under way, or as it would have made it.
func TestWholeLosses(t *testing.T) {
	r := random(31)
	k := reckon{}
	for range 30 {
		m := newMachine(t, 4, 2048+512*r.Intn(3))
		w := &world{vars: map[string]api.Var{}, mark: -1, images: map[string]picture{}, room: m.Do(call(api.CallInfo)).N}
		for range 220 {
			s := someStep(r, w)
			before := w.clone()
			want := w.do(s)
			n := 1 + r.Intn(1+r.Intn(4000))
			if v, ok := w.vars[string(s.call.Guid[:])+s.call.Name]; ok && r.Intn(2) == 0 {
				n = 80 + len(v.Name) + len(v.Data) + 2 // the old record would be killed then, if there is one
			}
			m.Do(api.Call{Kind: api.CallArm, N: n, Part: r.Intn(3000)})
			got := m.Do(s.call)
			if got.Err != api.ErrDead {
				if fmt.Sprint(got) != fmt.Sprint(want) {
					t.Fatalf("W4: %d %q: %v, want %v", s.call.Kind, s.call.Name, got, want)
				}
				m.Do(api.Call{Kind: api.CallArm})
				continue
			}
			k["losses"]++
			if fmt.Sprint(got) != fmt.Sprint(api.Told{Err: api.ErrDead}) {
				t.Fatalf("W4: with ErrDead: %v", got)
			}
			resetAll(t, r, m, k)
			now := machineTold(t, m)
			if before.told() == w.told() && fmt.Sprint(before.vars) != fmt.Sprint(w.vars) {
				break // they differ in a time alone, which nobody tells
			}
			switch now {
			case before.told():
				w = before
				k["as ahead of it"]++
			case w.told():
				k["as it would have made it"]++
			default:
				t.Fatalf("W4: behind a loss in %d %q: %s\nwant %s\nor %s", s.call.Kind, s.call.Name, now, before.told(), w.told())
			}
		}
	}
	k.want(t, 10, "losses", "losses in opening", "as ahead of it", "as it would have made it")
}

// resetAll resets a machine, with losses on the way, until it is refused by nothing more.
func resetAll(t *testing.T, r *rand.Rand, m *machine.Machine, k reckon) {
	t.Helper()
	for {
		e := m.Do(api.Call{Kind: api.CallReset, N: r.Intn(4), Part: r.Intn(3000)}).Err
		if e == 0 {
			m.Do(api.Call{Kind: api.CallArm})
			return
		}
		if e != api.ErrDead {
			t.Fatalf("W4: a reset is refused: %d", e)
		}
		k["losses in opening"]++
	}
}

// rowOfCalls makes a machine so small that the last of these calls copies its bank.
func rowOfCalls(t *testing.T, upTo int) (*machine.Machine, api.Call) {
	t.Helper()
	m := newMachine(t, 4, 256)
	calls := []api.Call{
		setCall("x", other, 3, []byte{1, 2, 3}),
		setCall("AuditMode", global, 3, []byte{1}),
		setCall("BootNext", global, 7, order(1)),
		setCall("x", other, 67, []byte{4}),
		setCall("x", other, 3, []byte{5}),
		call(api.CallBoot),
		setCall("y", other, 3, make([]byte, 60)),
		setCall("x", other, 3, nil),
	}
	for _, c := range calls[:upTo] {
		if e := m.Do(c).Err; e != 0 && c.Kind != api.CallBoot {
			t.Fatalf("W3: %q: %d", c.Name, e)
		}
	}
	return m, calls[upTo]
}

// W4, at each write of each call of a row, with each part of an erasure; and at each write of the resets behind it.
func TestWholeLossesEverywhere(t *testing.T) {
	for i := range 8 {
		m, c := rowOfCalls(t, i)
		before := machineTold(t, m)
		m.Do(c)
		after := machineTold(t, m)
		n, seen := 1, map[string]bool{}
		for ; !seen["done"]; n++ {
			for _, part := range []int{0, 1, 4, 12, 13, 100, 256, 1000} {
				for again := range 4 {
					m, c := rowOfCalls(t, i)
					m.Do(api.Call{Kind: api.CallArm, N: n, Part: part})
					if m.Do(c).Err != api.ErrDead {
						seen["done"] = true
						break
					}
					for m.Do(api.Call{Kind: api.CallReset, N: again, Part: part}).Err != 0 {
						again++
					}
					m.Do(api.Call{Kind: api.CallArm})
					switch now := machineTold(t, m); now {
					case before:
					case after:
						seen["after"] = true
					default:
						t.Fatalf("W4: the call %d, without power from the write %d on: %s", i, n, now)
					}
				}
			}
		}
		if i == 6 && n < 200 {
			t.Errorf("the call that should copy has only %d writes", n)
		}
		if (i == 3 || i == 4) && !seen["after"] {
			t.Errorf("no loss left the call %d done", i)
		}
	}
}
