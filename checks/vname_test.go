package checks

import (
	"bytes"
	"math"
	"strings"
	"testing"

	"lintel/api"
	"lintel/vname"
)

var (
	global   = api.Guid(unhex("61dfe48bca93d211aa0d00e098032b8c"))
	security = api.Guid(unhex("cbb219d73a3d9645a3bcdad00e67656f"))
	other    = api.Guid{1, 2, 3}
)

func TestVnameRight(t *testing.T) {
	for _, s := range []string{"a", "!", "~", "PK", "Boot0001", strings.Repeat("x", 64)} {
		if !vname.Right(s) {
			t.Errorf("P19.1: %q is not right", s)
		}
	}
	for _, s := range []string{"", " ", "a b", "\x7f", "\x00", "a\n", "é", "a\xff", "\x80", strings.Repeat("x", 65)} {
		if vname.Right(s) {
			t.Errorf("P19.1: %q is right", s)
		}
		if k, e := vname.Key(s, global); len(k) != 0 || e != api.ErrArg {
			t.Errorf("P19.1: Key of %q: %x, %d", s, k, e)
		}
		if n, g, ok := vname.Split(append(global[:], s...)); n != "" || g != (api.Guid{}) || ok {
			t.Errorf("P19.1: Split of %q: %q, %x, %v", s, n, g, ok)
		}
	}
	if vname.Global() != global || vname.Security() != security {
		t.Errorf("P19.1: Global: %x, Security: %x", vname.Global(), vname.Security())
	}
}

func TestVnameKey(t *testing.T) {
	k, e := vname.Key("PK", vname.Global())
	equal(t, "P19.1: Key", k, append(unhex("61dfe48bca93d211aa0d00e098032b8c"), 0x50, 0x4b))
	wantErr(t, "P19.1: Key", e, 0)
	in := roomy(k)
	name, g, ok := vname.Split(in)
	if name != "PK" || g != global || !ok {
		t.Errorf("P19.1: Split: %q, %x, %v", name, g, ok)
	}
	untouched(t, "R3: Split", in, k)
	for _, key := range [][]byte{nil, {1}, make([]byte, 15), make([]byte, 16), make([]byte, 17), []byte("mark")} {
		if name, g, ok := vname.Split(key); name != "" || g != (api.Guid{}) || ok {
			t.Errorf("P19.1: Split of %x: %q, %x, %v", key, name, g, ok)
		}
	}
	seen := map[string]bool{}
	for _, name := range []string{"a", "ab", "b", "aa"} {
		for _, g := range []api.Guid{global, security, other, {}} {
			k, _ := vname.Key(name, g)
			if seen[string(k)] {
				t.Errorf("P19.3: two keys are alike: %x", k)
			}
			for s := range seen {
				same := bytes.HasPrefix([]byte(s), g[:])
				begins := strings.HasPrefix(s, string(k)) || strings.HasPrefix(string(k), s)
				if same && begins != (strings.HasPrefix(s[16:], name) || strings.HasPrefix(name, s[16:])) {
					t.Errorf("P19.3: %x begins %x: %v", k, s, begins)
				}
			}
			seen[string(k)] = true
			if n, h, ok := vname.Split(k); n != name || h != g || !ok {
				t.Errorf("P19.3: Split of Key: %q, %x", n, h)
			}
		}
	}
}

func TestVnameKind(t *testing.T) {
	want := map[string]uint8{"PK": 1, "KEK": 2, "SetupMode": 4, "SecureBoot": 4, "AuditMode": 4, "DeployedMode": 4}
	secure := map[string]uint8{"db": 3, "dbx": 3, "dbt": 3}
	for _, name := range []string{"PK", "KEK", "SetupMode", "SecureBoot", "AuditMode", "DeployedMode", "db", "dbx", "dbt", "pk", "DB", "dbr", "Boot0001", "x", "", "PK ", "dbxx"} {
		if got := vname.Kind(name, global); got != want[name] {
			t.Errorf("P19.2: Kind of %q of Global: %d", name, got)
		}
		if got := vname.Kind(name, security); got != secure[name] {
			t.Errorf("P19.2: Kind of %q of Security: %d", name, got)
		}
		if got := vname.Kind(name, other); got != 0 {
			t.Errorf("P19.2: Kind of %q of another space: %d", name, got)
		}
	}
	if vname.Plain != 0 || vname.Pk != 1 || vname.Kek != 2 || vname.Db != 3 || vname.Mode != 4 {
		t.Errorf("P19.2: the kinds have other numbers")
	}
}

// fitsModel is P19.2, written apart from the program.
func fitsModel(kind uint8, attr uint32) bool {
	if attr&^(1|2|4|32|64) != 0 || attr&3 != 3 || kind > 4 {
		return false
	}
	if kind >= 1 && kind <= 3 && attr&36 != 36 {
		return false
	}
	return kind != 1 || attr&64 == 0
}

func TestVnameFits(t *testing.T) {
	for kind := range 256 {
		for attr := range uint32(512) {
			for _, high := range []uint32{0, 1 << 31, 1 << 16} {
				e := vname.Fits(uint8(kind), attr|high)
				if e != api.OK && e != api.ErrArg || (e == api.OK) != fitsModel(uint8(kind), attr|high) {
					t.Fatalf("P19.2: Fits of %d, %d: %d", kind, attr|high, e)
				}
			}
		}
	}
	for _, c := range []struct {
		kind uint8
		attr uint32
		want api.Errno
	}{
		{vname.Db, 39, 0}, {vname.Db, 7, api.ErrArg}, {vname.Pk, 103, api.ErrArg}, {vname.Plain, 1, api.ErrArg}, {vname.Plain, 8 + 3, api.ErrArg}, {vname.Plain, 3, 0},
		{vname.Plain, math.MaxUint32, api.ErrArg}, {vname.Mode, 3, 0}, {vname.Mode, 99, 0}, {vname.Kek, 103, 0}, {vname.Db, 35, api.ErrArg}, {5, 3, api.ErrArg}, {255, 39, api.ErrArg},
	} {
		wantErr(t, "P19.2: Fits", vname.Fits(c.kind, c.attr), c.want)
	}
}
