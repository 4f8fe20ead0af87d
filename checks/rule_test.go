package checks

import (
	"bytes"
	"crypto/sha256"
	"slices"
	"testing"

	"lintel/api"
	"lintel/rule"
	"lintel/vname"
)

func TestRuleMode(t *testing.T) {
	for mark := range 256 {
		without, with := api.ModeSetup, api.ModeDeployed
		if mark == 1 {
			without = api.ModeAudit
		}
		if mark == 0 {
			with = api.ModeUser
		}
		if rule.Mode(false, uint8(mark)) != without || rule.Mode(true, uint8(mark)) != with {
			t.Errorf("P22.1: Mode of the mark %d: %d, %d", mark, rule.Mode(false, uint8(mark)), rule.Mode(true, uint8(mark)))
		}
	}
	for mode := range 256 {
		if rule.Secure(uint8(mode)) != (mode == 1 || mode == 3) {
			t.Errorf("P22.1: Secure of %d", mode)
		}
	}
}

func TestRuleValue(t *testing.T) {
	weak := plainCert("i", "s", api.Key{N: []byte{0x91, 3}, E: 3}).bytes()
	one, two := certList(1, owner.cert), certList(1, keeper.cert)
	for what, c := range map[string]struct {
		data []byte
		want [5]api.Errno // of Plain, Pk, Kek, Db, Mode
	}{
		"nothing":               {nil, [5]api.Errno{0, 1, 1, 1, 0}},
		"no list":               {[]byte{1}, [5]api.Errno{0, 1, 1, 1, 0}},
		"a certificate":         {one, [5]api.Errno{}},
		"two lists":             {slices.Concat(one, two), [5]api.Errno{1: 1}},
		"two items":             {certList(1, owner.cert, owner.cert), [5]api.Errno{1: 1}},
		"a hash":                {hashList(1, 2), [5]api.Errno{1: 1}},
		"a sum":                 {sumList(1, [32]byte{}), [5]api.Errno{1: 1}},
		"no certificate":        {certList(1, []byte{1, 2}), [5]api.Errno{1: 1}},
		"a key that may not be": {certList(1, weak), [5]api.Errno{1: 1}},
		"something behind":      {append(bytes.Clone(one), 0), [5]api.Errno{1: 1, 2: 1, 3: 1}},
		"too much":              {make([]byte, 65537), [5]api.Errno{1: 1, 2: 1, 3: 1}},
	} {
		for kind, want := range c.want {
			if got := rule.Value(uint8(kind), c.data); got != want {
				t.Errorf("P22.2: Value of the kind %d, %s: %d, want %d", kind, what, got, want)
			}
		}
	}
	wantErr(t, "P22.2: Value of the kind 5", rule.Value(5, nil), 0)
	if vname.Pk != 1 || vname.Kek != 2 || vname.Db != 3 {
		t.Errorf("P19.2: kinds")
	}
}

func TestRulePermits(t *testing.T) {
	text := []byte("what is signed")
	digest := sha256.Sum256(text)
	keys := func(l ...[]byte) []byte { return slices.Concat(l...) }
	kind := func(content []byte, certs [][]byte, signers ...[]byte) []byte {
		return plainSigned(content, certs, signers...).bytes()
	}
	bare := kind(oidPlain, [][]byte{owner.cert}, owner.signs(oidPlain, digest, false))
	self := newPerson("stranger", pairC, keeper) // signed by the keeper, as the deputy is
	for what, c := range map[string]struct {
		keys, blob []byte
		want       bool
	}{
		"the owner":                       {certList(1, owner.cert), owner.blobOf(text), true},
		"the owner, wrapped":              {certList(1, owner.cert), seq(oidSigned, tlv(0xa0, owner.blobOf(text))), true},
		"without attributes":              {certList(1, owner.cert), bare, true},
		"one of several keys":             {keys(hashList(1, 2), certList(1, keeper.cert), certList(2, owner.cert)), owner.blobOf(text), true},
		"by nothing":                      {nil, owner.blobOf(text), false},
		"by no lists":                     {[]byte{1}, owner.blobOf(text), false},
		"by hashes":                       {hashList(1, 2), owner.blobOf(text), false},
		"by a digest of the cert":         {sumList(1, sha256.Sum256(owner.cert)), owner.blobOf(text), false},
		"by another key":                  {certList(1, keeper.cert), owner.blobOf(text), false},
		"by the same key of another cert": {certList(1, newPerson("owner", pairA, keeper).cert), owner.blobOf(text), false},
		"of another text":                 {certList(1, owner.cert), owner.blobOf([]byte("another text")), false},
		"a row":                           {certList(1, keeper.cert), deputy.blobOf(text, keeper.cert), true},
		"a row of the leaf alone":         {certList(1, deputy.cert), deputy.blobOf(text), true},
		"a row without the anchor":        {certList(1, keeper.cert), deputy.blobOf(text), false},
		"a stranger":                      {certList(1, keeper.cert), stranger.blobOf(text, keeper.cert), false},
		"a certificate of another kind":   {certList(1, keeper.cert), self.blobOf(text, keeper.cert), true},
		"two signers, the second one":     {certList(1, owner.cert), kind(oidPlain, [][]byte{owner.cert, stranger.cert}, stranger.signs(oidPlain, digest, true), owner.signs(oidPlain, digest, true)), true},
		"two signers, none of them":       {certList(1, keeper.cert), kind(oidPlain, [][]byte{owner.cert, stranger.cert}, stranger.signs(oidPlain, digest, true), owner.signs(oidPlain, digest, true)), false},
		"another kind of content":         {certList(1, owner.cert), kind(oidCode, [][]byte{owner.cert}, owner.signs(oidPlain, digest, true)), false},
		"attributes of another kind":      {certList(1, owner.cert), kind(oidPlain, [][]byte{owner.cert}, owner.signs(oidCode, digest, true)), false},
		"a content":                       {certList(1, owner.cert), kind(slices.Concat(oidPlain, tlv(0xa0, tlv(4, text))), [][]byte{owner.cert}, owner.signs(oidPlain, digest, true)), false},
		"no blob":                         {certList(1, owner.cert), nil, false},
		"no certificate":                  {certList(1, owner.cert), kind(oidPlain, nil, owner.signs(oidPlain, digest, true)), false},
	} {
		in := [][]byte{roomy(c.keys), roomy(c.blob), roomy(text)}
		if rule.Permits(in[0], in[1], in[2]) != c.want {
			t.Errorf("P22.3: Permits, %s: %v", what, !c.want)
		}
		untouched(t, "R3: Permits", in[0], c.keys)
		untouched(t, "R3: Permits", in[1], c.blob)
		untouched(t, "R3: Permits", in[2], text)
	}
	turned := owner.blobOf(text)
	turned[len(turned)-1] ^= 1
	if rule.Permits(certList(1, owner.cert), turned, text) {
		t.Errorf("P22.3: Permits by another signature")
	}
}

func TestRuleOwner(t *testing.T) {
	text := []byte("what is signed")
	digest := sha256.Sum256(text)
	want := func(what string, blob []byte, who *person) {
		t.Helper()
		in := roomy(blob)
		got, ok := rule.Owner(in, text)
		if who == nil && (ok || got != [32]byte{}) || who != nil && (!ok || got != sha256.Sum256(who.cert)) {
			t.Errorf("P22.4: Owner, %s: %x, %v", what, got, ok)
		}
		untouched(t, "R3: Owner", in, blob)
	}
	want("a stranger", stranger.blobOf(text), stranger)
	want("with other certificates ahead", plainSigned(oidPlain, [][]byte{keeper.cert, owner.cert}, owner.signs(oidPlain, digest, true)).bytes(), owner)
	want("another text", stranger.blobOf([]byte("x")), nil)
	want("no blob", nil, nil)
	want("a content", plainSigned(slices.Concat(oidPlain, tlv(0xa0, null)), [][]byte{owner.cert}, owner.signs(oidPlain, digest, true)).bytes(), nil)
	want("another kind", plainSigned(oidCode, [][]byte{owner.cert}, owner.signs(oidCode, digest, true)).bytes(), nil)
	// Of two signers the first one, in the order of the set; where that one is not right, the other.
	a, b := owner.signs(oidPlain, digest, true), keeper.signs(oidPlain, digest, true)
	first, second := owner, keeper
	if bytes.Compare(a, b) > 0 {
		first, second = keeper, owner
	}
	certs := [][]byte{keeper.cert, owner.cert}
	want("two signers", plainSigned(oidPlain, certs, a, b).bytes(), first)
	want("the first one without a certificate", plainSigned(oidPlain, [][]byte{second.cert}, a, b).bytes(), second)
}

// A key that was made for a text permits that text, and no other one.
func TestRuleMadeKeys(t *testing.T) {
	for i, text := range [][]byte{[]byte("one"), []byte("two")} {
		digest := sha256.Sum256(text)
		k, sig := madeKey(digest, int64(i))
		c := plainCert("made", "made", k).bytes()
		blob := plainSigned(oidPlain, [][]byte{c}, plainSigner("made", 5, sig).bytes()).bytes()
		if !rule.Permits(certList(1, c), blob, text) || rule.Permits(certList(1, c), blob, []byte("three")) || rule.Permits(nil, blob, text) {
			t.Errorf("P22.5: what a key permits that was made for %q", text)
		}
	}
}
