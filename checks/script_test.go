package checks

import (
	"fmt"
	"math"
	"math/rand"
	"strings"
	"testing"

	"lintel/api"
	"lintel/machine"
	"lintel/script"
)

const noGuid = "00000000000000000000000000000000"

func TestScriptForm(t *testing.T) {
	g := api.Guid(unhex("000102030405060708090a0b0c0d0eff"))
	path, data := roomy([]byte{0xab}), roomy([]byte{0, 0xff})
	for want, c := range map[string]api.Call{
		"set x " + noGuid + " 7 05":                              {Kind: 1, Name: "x", Attr: 7, Data: []byte{5}},
		"set - 000102030405060708090a0b0c0d0eff 4294967295 00ff": {Kind: 1, Guid: g, Attr: math.MaxUint32, Data: data},
		"set -- " + noGuid + " 0 -":                              {Kind: 1, Name: "--"},
		"get a " + noGuid + " -3":                                {Kind: 2, Name: "a", N: -3},
		"get ! " + noGuid + " 9223372036854775807":               {Kind: 2, Name: "!", N: math.MaxInt},
		"next - " + noGuid:                                       {Kind: 3},
		"next # " + noGuid:                                       {Kind: 3, Name: "#"},
		"info":                                                   {Kind: 4},
		"mode":                                                   {Kind: 5},
		"image ab 00ff":                                          {Kind: 6, Path: path, Data: data},
		"image - -":                                              {Kind: 6, Path: []byte{}, Data: []byte{}},
		"boot":                                                   {Kind: 7},
		"reset 0 1":                                              {Kind: 8, Part: 1},
		"arm -9223372036854775808 0":                             {Kind: 9, N: math.MinInt},
		"check ab":                                               {Kind: 10, Data: path},
		"next " + strings.Repeat("~", 80) + " " + noGuid: {Kind: 3, Name: strings.Repeat("~", 80)},
	} {
		got, e := script.Form(c)
		if got != want || e != 0 {
			t.Errorf("P28.1: Form of %v: %q, %d; want %q", c, got, e, want)
		}
		back, e := script.Read(want)
		if fmt.Sprint(back) != fmt.Sprint(c) || e != 0 {
			t.Errorf("P28.1: Read of %q: %v, %d", want, back, e)
		}
	}
	untouched(t, "R3: Form", path, []byte{0xab})
	untouched(t, "R3: Form", data, []byte{0, 0xff})
	for _, c := range []api.Call{
		{}, {Kind: 11}, {Kind: 255}, {Kind: 2, Name: "a b"}, {Kind: 2, Name: "-"}, {Kind: 2, Name: "é"}, {Kind: 2, Name: "a\n"}, {Kind: 2, Name: "\x7f"}, {Kind: 2, Name: strings.Repeat("x", 81)},
		{Kind: 1, N: 1}, {Kind: 1, Part: 1}, {Kind: 1, Path: []byte{1}}, {Kind: 2, Attr: 1}, {Kind: 2, Part: -1}, {Kind: 2, Data: []byte{1}}, {Kind: 2, Path: []byte{0}}, {Kind: 3, N: 1}, {Kind: 3, Attr: 1}, {Kind: 3, Data: []byte{0}},
		{Kind: 4, N: 1}, {Kind: 4, Name: "x"}, {Kind: 5, Guid: api.Guid{15: 1}}, {Kind: 5, Attr: 1}, {Kind: 6, Name: "x"}, {Kind: 6, N: 1}, {Kind: 6, Attr: 7}, {Kind: 7, N: 1}, {Kind: 7, Data: []byte{1}},
		{Kind: 8, Data: []byte{1}}, {Kind: 8, Name: "x"}, {Kind: 9, Guid: api.Guid{1}}, {Kind: 9, Path: []byte{1}}, {Kind: 10, Path: []byte{1}}, {Kind: 10, N: 1}, {Kind: 10, Name: "x"}, {Kind: 4, Name: "a b"},
	} {
		if got, e := script.Form(c); got != "" || e != api.ErrArg {
			t.Errorf("P28.1: Form of %v: %q, %d", c, got, e)
		}
	}
}

func TestScriptRead(t *testing.T) {
	if c, e := script.Read("arm 3 -1"); e != 0 || c.N != 3 || c.Part != -1 || c.Kind != api.CallArm {
		t.Errorf("P28.1: Read: %v, %d", c, e)
	}
	for _, line := range []string{
		"arm 03 0", "arm 3", "check 0", "check 0A", "", " ", "arm", "arm 3 0 ", " arm 3 0", "arm  3 0", "arm 3\t0", "arm 3 0 0", "arm -0 0", "arm +3 0", "arm 3 0x1", "arm 1_0 0", "arm - 0", "arm 9223372036854775808 0", "arm -9223372036854775809 0", "arm 00 0", "arm 3 -", "arm 3 0\n", "Arm 3 0", "arms 3 0",
		"check", "check ", "check zz", "check 0102 ", "check 01 02", "check abc", "check --", "info -", "boot 0", "mode ", "flash 2 64", "# x",
		"get x " + noGuid, "get x " + noGuid[1:] + " 0", "get x " + noGuid + "00 0", "get x - 0", "get  " + noGuid + " 0", "get é " + noGuid + " 0", "get " + strings.Repeat("x", 81) + " " + noGuid + " 0", "get x " + strings.Repeat("A", 32) + " 0",
		"set x " + noGuid + " -1 00", "set x " + noGuid + " 4294967296 00", "set x " + noGuid + " 7", "set x " + noGuid + " 7 05 06", "set x " + noGuid + " 07 05", "next x", "next " + noGuid, "image -", "image - - -", "image ab", "reset 1", "reset", "set a b " + noGuid + " 7 05",
	} {
		if c, e := script.Read(line); e != api.ErrForm || fmt.Sprint(c) != fmt.Sprint(api.Call{}) {
			t.Errorf("P28.1: Read of %q: %v, %d", line, c, e)
		}
	}
}

func someCall(r *rand.Rand) api.Call {
	c := api.Call{Kind: uint8(r.Intn(12))}
	if r.Intn(2) == 0 {
		c.Name = []string{"x", "PK", "", "-", "a b"}[r.Intn(5)]
	}
	if r.Intn(2) == 0 {
		copy(c.Guid[:], someBytes(r, 16))
	}
	for _, x := range []*int{&c.N, &c.Part} {
		if r.Intn(2) == 0 {
			*x = int(r.Uint64()) >> r.Intn(64)
		}
	}
	if r.Intn(2) == 0 {
		c.Attr = r.Uint32() >> r.Intn(32)
	}
	for _, x := range []*[]byte{&c.Path, &c.Data} {
		if r.Intn(2) == 0 {
			*x = someBytes(r, r.Intn(4))
		}
	}
	return c
}

func TestScriptFollows(t *testing.T) {
	r := random(32)
	formed := 0
	for range 20000 {
		c := someCall(r)
		line, e := script.Form(c)
		if e != 0 {
			continue
		}
		formed++
		if back, e := script.Read(line); e != 0 || fmt.Sprint(back) != fmt.Sprint(c) {
			t.Fatalf("what follows: Read of Form of %v: %v, %d", c, back, e)
		}
		turned := []byte(line)
		turned[r.Intn(len(turned))] = " -0a#:\n"[r.Intn(7)]
		if c, e := script.Read(string(turned)); e == 0 {
			if again, _ := script.Form(c); again != string(turned) {
				t.Fatalf("what follows: Form of Read of %q: %q", turned, again)
			}
		}
	}
	if formed < 500 {
		t.Errorf("only %d lines", formed)
	}
}

func TestScriptTold(t *testing.T) {
	g := api.Guid(unhex("000102030405060708090a0b0c0d0eff"))
	for want, x := range map[string]api.Told{
		"3 - " + noGuid + " 0 0 - -":                                                       {Err: api.ErrNone},
		"0 - " + noGuid + " 0 2 00ff 3:13":                                                 {N: 2, Data: []byte{0, 0xff}, Tries: []api.Try{{Number: 3, Err: api.ErrDenied}}},
		"-1 x 000102030405060708090a0b0c0d0eff 4294967295 -5 01 0:0,65535:3":               {Err: -1, Name: "x", Guid: g, Attr: math.MaxUint32, N: -5, Data: []byte{1}, Tries: []api.Try{{}, {Number: 65535, Err: 3}}},
		"0 ? " + noGuid + " 0 0 - -":                                                       {Name: "a b"},
		"0 " + strings.Repeat("x", 80) + " " + noGuid + " 0 9223372036854775807 - 1:1,1:2": {Name: strings.Repeat("x", 80), N: math.MaxInt, Tries: []api.Try{{Number: 1, Err: 1}, {Number: 1, Err: 2}}},
	} {
		if got := script.Told(x); got != want {
			t.Errorf("P28.2: Told of %v: %q, want %q", x, got, want)
		}
	}
	for _, name := range []string{"-", "é", strings.Repeat("x", 81), "\n"} {
		if got := script.Told(api.Told{Name: name}); got != "0 ? "+noGuid+" 0 0 - -" {
			t.Errorf("P28.2: Told of the name %q: %q", name, got)
		}
	}
	data := roomy([]byte{1, 2})
	script.Told(api.Told{Data: data})
	untouched(t, "R3: Told", data, []byte{1, 2})
}

func TestScriptRun(t *testing.T) {
	g := noGuid
	for _, c := range []struct {
		text, out string
		line      int
		e         api.Errno
	}{
		{"", "", 0, api.ErrForm}, {"\n", "", 1, api.ErrForm}, {"\n\n# x", "", 3, api.ErrForm}, {"# x\n", "", 1, api.ErrForm}, {"# x\nboot\n", "", 1, api.ErrForm}, {"# x\nboot", "", 1, api.ErrForm},
		{"flash 2 4096", "", 0, 0}, {"flash 2 4096\n", "", 0, 0}, {"\n#flash\n\nflash 2 4096\n\n# end\n", "", 0, 0},
		{"flash 2 4096\nmode", "mode\n= 0 - " + g + " 0 0 - -\n", 0, 0},
		{"flash 2 4096\nflash 2 4096", "", 1, api.ErrForm}, {"flash 2 4096\n\nmode\nmodes\nboot 1", "", 3, api.ErrForm}, {"flash 2 4096\n boot", "", 1, api.ErrForm}, {"flash 2 4096\n mode\n#", "", 1, api.ErrForm},
		{"flash 02 4096", "", 0, api.ErrForm}, {"flash 2", "", 0, api.ErrForm}, {"flash 2 4096 ", "", 0, api.ErrForm}, {"flash  2 4096", "", 0, api.ErrForm}, {"flash", "", 0, api.ErrForm}, {"flash 2 x", "", 0, api.ErrForm}, {" flash 2 4096", "", 0, api.ErrForm}, {"flash 2 4096 1", "", 0, api.ErrForm}, {"Flash 2 4096", "", 0, api.ErrForm}, {"flash - 4096", "", 0, api.ErrForm},
		{"#\nflash 3 4096\nmode", "", 1, api.ErrArg}, {"flash -1 5", "", 0, api.ErrArg}, {"\n\nflash 0 0\n", "", 2, api.ErrArg}, {"flash 65 16\nbad", "", 1, api.ErrForm},
		{"flash 2 4096\r\n", "", 0, api.ErrForm},
		{"flash 2 4096\nset x " + g + " 3 05\nget x " + g + " 0\nget x " + g + " 1\nnext - " + g + "\narm 1 0\nset x " + g + " 3 06\nreset 0 0\ncheck -\ninfo\n",
			"set x " + g + " 3 05\n= 0 - " + g + " 0 0 - -\nget x " + g + " 0\n= 4 - " + g + " 0 1 - -\nget x " + g + " 1\n= 0 - " + g + " 3 1 05 -\nnext - " + g + "\n= 0 x " + g + " 0 0 - -\narm 1 0\n= 0 - " + g + " 0 0 - -\n" +
				"set x " + g + " 3 06\n= 6 - " + g + " 0 0 - -\nreset 0 0\n= 0 - " + g + " 0 0 - -\ncheck -\n= 9 - " + g + " 0 0 - -\ninfo\n= 0 - " + g + " 82 4080 - -\n", 0, 0},
	} {
		out, line, e := script.Run(c.text)
		if out != c.out || line != c.line || e != c.e {
			t.Errorf("P28.3: Run of %q: %q, %d, %d; want %q, %d, %d", c.text, out, line, e, c.out, c.line, c.e)
		}
	}
}

// What a text tells is what a machine answers to its calls; more calls tell more behind it; idle lines change nothing.
func TestScriptIsTheMachine(t *testing.T) {
	r := random(33)
	w := &world{vars: map[string]api.Var{}, mark: -1, images: map[string]picture{}, room: 6128}
	m, _ := machine.New(4, 3072)
	text, want := "flash 4 3072\n", ""
	before := ""
	steps := firstSteps(r)
	for i := range 60 {
		s := someStep(r, w)
		if i < len(steps) {
			s = steps[i]
		}
		line, e := script.Form(s.call)
		if e != 0 {
			continue
		}
		w.do(s)
		text += strings.Repeat("# idle\n\n", r.Intn(2)) + line + "\n"
		want += line + "\n= " + script.Told(m.Do(s.call)) + "\n"
		if i%6 > 0 {
			continue
		}
		out, _, e := script.Run(text)
		if out != want || e != 0 || !strings.HasPrefix(out, before) {
			t.Fatalf("P28.3: Run: %q, %d; want %q", out, e, want)
		}
		before = out
	}
}
