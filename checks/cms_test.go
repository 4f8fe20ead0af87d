package checks

import (
	"bytes"
	"fmt"
	"reflect"
	"slices"
	"testing"

	"lintel/api"
	"lintel/cert"
	"lintel/cms"
)

// flat is signed data as text, in which nil and empty lists are the same.
func flat(s api.Signed) string { return fmt.Sprint(s) }

func wantSigned(t *testing.T, what string, b []byte, want api.Signed) {
	t.Helper()
	in := roomy(b)
	got, e := cms.Parse(in)
	if e != 0 || flat(got) != flat(want) {
		t.Errorf("%s: Parse: %s, %d; want %s", what, flat(got), e, flat(want))
	}
	untouched(t, "R3: Parse", in, b)
}

func wrongSigned(t *testing.T, what string, b []byte, want api.Errno) {
	t.Helper()
	if got, e := cms.Parse(b); e != want || !reflect.DeepEqual(got, api.Signed{}) {
		t.Errorf("%s: Parse: %s, %d; want %d", what, flat(got), e, want)
	}
}

func certOf(t *testing.T, f certForm) api.Cert {
	t.Helper()
	c, e := cert.Parse(f.bytes())
	if e != 0 {
		t.Fatalf("P12.1: %d", e)
	}
	return c
}

func TestCmsParse(t *testing.T) {
	digest := [32]byte(bytes.Repeat([]byte{7}, 32))
	attrs := attributes(oidCode, digest)
	a, b := plainSigner("i", 5, []byte{1, 2, 3}), plainSigner("j", 0, nil)
	b.attrs, b.digest = tlv(0xa0, attrs), shaBare
	one, two := plainCert("i", "s", someKey), plainCert("s", "t", someKey, caExt(2))
	content := slices.Concat(oidCode, tlv(0xa0, seq(tlv(4, []byte{9}))))
	f := plainSigned(content, [][]byte{two.bytes(), one.bytes()}, a.bytes(), b.bytes())
	wantA := api.Signer{Issuer: named("i"), Serial: []byte{5}, Sig: []byte{1, 2, 3}}
	wantB := api.Signer{Issuer: named("j"), Serial: []byte{0}, Attrs: tlv(0x31, attrs), Kind: oidCode[2:], Digest: digest[:]}
	want := api.Signed{Kind: oidCode[2:], Content: seq(tlv(4, []byte{9})), Certs: []api.Cert{certOf(t, two), certOf(t, one)}, Signers: []api.Signer{wantA, wantB}}
	if bytes.Compare(a.bytes(), b.bytes()) > 0 {
		want.Signers = []api.Signer{wantB, wantA}
	}
	wantSigned(t, "P14.2: bare", f.bytes(), want)
	wantSigned(t, "P14.1: wrapped", f.wrapped(), want)
	for _, b := range [][]byte{f.bytes(), f.wrapped()} {
		for n := range b {
			if n%7 == 0 || n > len(b)-5 || n < 5 {
				wrongSigned(t, "what follows: cut", b[:n], api.ErrForm)
			}
		}
		wrongSigned(t, "what follows: something behind it", append(bytes.Clone(b), 0), api.ErrForm)
	}
	g := plainSigned(oidPlain, nil, a.bytes())
	want = api.Signed{Kind: oidPlain[2:], Signers: []api.Signer{wantA}}
	wantSigned(t, "P14.2: the least", g.bytes(), want)
	g.certs = tlv(0xa0)
	wantSigned(t, "P14.2: no certificates in it", g.bytes(), want)
	g.methods = tlv(0x31, shaBare)
	wantSigned(t, "P14.2: a method without NULL", g.wrapped(), want)
	g.signers = tlv(0x31, a.bytes(), a.bytes())
	want.Signers = []api.Signer{wantA, wantA}
	wantSigned(t, "P14.2: two signers alike", g.wrapped(), want)
}

func TestCmsWrong(t *testing.T) {
	wrongSigned(t, "P14.1: nothing", nil, api.ErrForm)
	wrongSigned(t, "P14.1: SEQ{}", seq(), api.ErrForm)
	wrongSigned(t, "P14.1: 65537 bytes", make([]byte, 65537), api.ErrBig)
	wrongSigned(t, "P14.1: elements that lie too deep", nested(17, 0x30, nil), api.ErrBig)
	with := func(change func(f *signedForm)) signedForm {
		f := plainSigned(oidPlain, [][]byte{plainCert("i", "s", someKey).bytes()}, plainSigner("i", 5, []byte{1}).bytes())
		change(&f)
		return f
	}
	lower, higher := plainSigner("i", 5, []byte{1}).bytes(), plainSigner("i", 5, []byte{2}).bytes()
	for what, f := range map[string]signedForm{
		"no signer":            with(func(f *signedForm) { f.signers = tlv(0x31) }),
		"signers of tag 30":    with(func(f *signedForm) { f.signers = seq(lower) }),
		"signers not in order": with(func(f *signedForm) { f.signers = tlv(0x31, higher, lower) }),
		"no signers":           with(func(f *signedForm) { f.signers = nil }),
		"another version":      with(func(f *signedForm) { f.version = unhex("020103") }),
		"a long version":       with(func(f *signedForm) { f.version = unhex("02020101") }),
		"no version":           with(func(f *signedForm) { f.version = unhex("040101") }),
		"a version 02 00 01":   with(func(f *signedForm) { f.version = unhex("02020001") }),
		"no methods":           with(func(f *signedForm) { f.methods = tlv(0x31) }),
		"two methods":          with(func(f *signedForm) { f.methods = tlv(0x31, shaMethod, shaMethod) }),
		"another method":       with(func(f *signedForm) { f.methods = tlv(0x31, keyMethod) }),
		"a method and more":    with(func(f *signedForm) { f.methods = tlv(0x31, seq(unhex("0609608648016503040201"), null, null)) }),
		"a method of no null":  with(func(f *signedForm) { f.methods = tlv(0x31, seq(unhex("0609608648016503040201"), unhex("0400"))) }),
		"methods of tag 30":    with(func(f *signedForm) { f.methods = seq(shaMethod) }),
		"a content of no oid":  with(func(f *signedForm) { f.content = seq(null) }),
		"a content of bad oid": with(func(f *signedForm) { f.content = seq(unhex("06028001")) }),
		"an empty content":     with(func(f *signedForm) { f.content = seq() }),
		"two contents":         with(func(f *signedForm) { f.content = seq(oidPlain, tlv(0xa0, null, null)) }),
		"no content in it":     with(func(f *signedForm) { f.content = seq(oidPlain, tlv(0xa0)) }),
		"a content of tag a1":  with(func(f *signedForm) { f.content = seq(oidPlain, tlv(0xa1, null)) }),
		"a content and more":   with(func(f *signedForm) { f.content = seq(oidPlain, tlv(0xa0, null), null) }),
		"certs of tag a1":      with(func(f *signedForm) { f.certs = tlv(0xa1, plainCert("i", "s", someKey).bytes()) }),
		"a wrong cert":         with(func(f *signedForm) { f.certs = tlv(0xa0, seq()) }),
		"six elements":         with(func(f *signedForm) { f.behind = tlv(0x31, lower) }),
		"three elements":       with(func(f *signedForm) { f.certs, f.content = nil, nil }),
	} {
		wrongSigned(t, "P14.2: "+what, f.bytes(), api.ErrForm)
		wrongSigned(t, "P14.2: wrapped, "+what, f.wrapped(), api.ErrForm)
	}
	right := with(func(*signedForm) {}).bytes()
	for what, b := range map[string][]byte{
		"another oid": seq(oidPlain, tlv(0xa0, right)), "another tag": seq(oidSigned, tlv(0xa1, right)), "no tag": seq(oidSigned, right), "two": seq(oidSigned, tlv(0xa0, right, right)), "none": seq(oidSigned, tlv(0xa0)),
		"more": seq(oidSigned, tlv(0xa0, right), null), "twice": seq(oidSigned, tlv(0xa0, seq(oidSigned, tlv(0xa0, right)))), "a set": tlv(0x31, oidSigned, tlv(0xa0, right)),
	} {
		wrongSigned(t, "P14.1: wrapped otherwise, "+what, b, api.ErrForm)
	}
}

func TestCmsLimits(t *testing.T) {
	c := plainCert("i", "s", someKey).bytes()
	signers := func(n int) [][]byte {
		var l [][]byte
		for i := range n {
			l = append(l, plainSigner("i", byte(i), nil).bytes())
		}
		return l
	}
	if s, e := cms.Parse(plainSigned(oidPlain, slices.Repeat([][]byte{c}, 16), signers(8)...).bytes()); e != 0 || len(s.Certs) != 16 || len(s.Signers) != 8 {
		t.Errorf("P14.2: 16 certificates and 8 signers: %d, %d, %d", len(s.Certs), len(s.Signers), e)
	}
	wrongSigned(t, "P14.2: 17 certificates", plainSigned(oidPlain, slices.Repeat([][]byte{c}, 17), signers(1)...).bytes(), api.ErrBig)
	wrongSigned(t, "P14.2: 9 signers", plainSigned(oidPlain, nil, signers(9)...).bytes(), api.ErrBig)
	// The first error, in order.
	wrongSigned(t, "P14.2: 17 certificates that are none", plainSigned(oidPlain, slices.Repeat([][]byte{null}, 17), signers(1)...).bytes(), api.ErrBig)
	f := plainSigned(oidPlain, slices.Repeat([][]byte{c}, 17), signers(1)...)
	f.content = seq()
	wrongSigned(t, "P14.2: a wrong content and 17 certificates", f.bytes(), api.ErrForm)
	f = plainSigned(oidPlain, slices.Repeat([][]byte{c}, 17))
	wrongSigned(t, "P14.2: 17 certificates and no signers", f.bytes(), api.ErrBig)
	wrongSigned(t, "P14.2: a great certificate", plainSigned(oidPlain, [][]byte{c, bigCert(8193).bytes(), null}, signers(1)...).bytes(), api.ErrBig)
	wrongSigned(t, "P14.2: a wrong certificate and a great one", plainSigned(oidPlain, [][]byte{c, null, bigCert(8193).bytes()}, signers(1)...).bytes(), api.ErrForm)
	wrongSigned(t, "P14.2: 9 signers that are none", plainSigned(oidPlain, nil, slices.Repeat([][]byte{null}, 9)...).bytes(), api.ErrBig)
	f = plainSigned(oidPlain, nil)
	f.signers = tlv(0x31, slices.Concat(slices.Repeat([][]byte{tlv(5, []byte{1})}, 9)...), null)
	wrongSigned(t, "P14.2: 10 signers not in order", f.bytes(), api.ErrForm)
	sig := make([]byte, 65536)
	f = plainSigned(oidPlain, nil, plainSigner("i", 5, sig).bytes())
	over := len(f.bytes()) - 65536
	f = plainSigned(oidPlain, nil, plainSigner("i", 5, sig[over:]).bytes())
	for len(f.bytes()) < 65536 {
		over--
		f = plainSigned(oidPlain, nil, plainSigner("i", 5, sig[over:]).bytes())
	}
	if _, e := cms.Parse(f.bytes()); e != 0 || len(f.bytes()) != 65536 {
		t.Errorf("P14.1: %d bytes: %d", len(f.bytes()), e)
	}
	wrongSigned(t, "P14.1: one byte more", plainSigned(oidPlain, nil, plainSigner("i", 5, sig[over-1:]).bytes()).bytes(), api.ErrBig)
}

func TestCmsSigners(t *testing.T) {
	digest := [32]byte{1, 2}
	kind, told := attribute(oidKindOf, oidPlain), attribute(oidDigest, tlv(4, digest[:]))
	other := attribute(unhex("06022a03"), seq(null))
	with := func(change func(f *signerForm)) []byte {
		f := plainSigner("i", 5, []byte{1})
		f.attrs = tlv(0xa0, inOrder(kind, told))
		change(&f)
		return f.bytes()
	}
	attrs := func(parts ...[]byte) []byte {
		return with(func(f *signerForm) { f.attrs = tlv(0xa0, parts...) })
	}
	for what, b := range map[string][]byte{"others": attrs(inOrder(kind, told, other)), "none": with(func(f *signerForm) { f.attrs = nil })} {
		if s, e := cms.Parse(plainSigned(oidPlain, nil, b).bytes()); e != 0 || len(s.Signers) != 1 || (len(s.Signers[0].Attrs) > 0) != (what == "others") {
			t.Errorf("P14.3: %s: %s, %d", what, flat(s), e)
		}
	}
	for what, b := range map[string][]byte{
		"no kind":               attrs(told),
		"no digest":             attrs(kind),
		"no attributes":         attrs(),
		"not in order":          attrs(told, kind)[:len(attrs(told, kind))],
		"twice":                 attrs(inOrder(kind, told, told)),
		"another one twice":     attrs(inOrder(kind, told, other, other)),
		"a kind of no oid":      attrs(inOrder(attribute(oidKindOf, null), told)),
		"a kind of a bad oid":   attrs(inOrder(attribute(oidKindOf, unhex("0600")), told)),
		"two kinds":             attrs(inOrder(seq(oidKindOf, tlv(0x31, oidPlain, oidPlain)), told)),
		"no value":              attrs(inOrder(kind, told, seq(unhex("06022a03"), tlv(0x31)))),
		"two values":            attrs(inOrder(kind, told, seq(unhex("06022a03"), tlv(0x31, null, null)))),
		"values of tag 30":      attrs(inOrder(kind, told, seq(unhex("06022a03"), seq(null)))),
		"an attribute and more": attrs(inOrder(kind, told, seq(unhex("06022a03"), tlv(0x31, null), null))),
		"an attribute, no oid":  attrs(inOrder(kind, told, attribute(null, null))),
		"an attribute, a set":   attrs(inOrder(kind, told, tlv(0x31, unhex("06022a03"), tlv(0x31, null)))),
		"a digest of 31":        attrs(inOrder(kind, attribute(oidDigest, tlv(4, digest[:31])))),
		"a digest of 33":        attrs(inOrder(kind, attribute(oidDigest, tlv(4, digest[:], []byte{0})))),
		"a digest of bits":      attrs(inOrder(kind, attribute(oidDigest, tlv(3, digest[:])))),
		"attributes of a1":      with(func(f *signerForm) { f.attrs = tlv(0xa1, inOrder(kind, told)) }),
		"attributes of 31":      with(func(f *signerForm) { f.attrs = tlv(0x31, inOrder(kind, told)) }),
		"another version":       with(func(f *signerForm) { f.version = unhex("020103") }),
		"no name":               with(func(f *signerForm) { f.name = seq() }),
		"a name of three":       with(func(f *signerForm) { f.name = seq(named("i"), unhex("020105"), null) }),
		"a name, a set":         with(func(f *signerForm) { f.name = seq(tlv(0x31), unhex("020105")) }),
		"a serial of octets":    with(func(f *signerForm) { f.name = seq(named("i"), unhex("040105")) }),
		"a serial below 0":      with(func(f *signerForm) { f.name = seq(named("i"), unhex("020185")) }),
		"another digest":        with(func(f *signerForm) { f.digest = keyMethod }),
		"another method":        with(func(f *signerForm) { f.method = signMethod }),
		"a method, no null":     with(func(f *signerForm) { f.method = seq(unhex("06092a864886f70d010101")) }),
		"a method and more":     with(func(f *signerForm) { f.method = seq(unhex("06092a864886f70d010101"), null, null) }),
		"attributes and more":   with(func(f *signerForm) { f.attrs = append(bytes.Clone(f.attrs), null...) }),
		"attributes twice":      with(func(f *signerForm) { f.attrs = append(bytes.Clone(f.attrs), f.attrs...) }),
		"a signature of bits":   with(func(f *signerForm) { f.sig = bits([]byte{1}) }),
		"no signature":          with(func(f *signerForm) { f.sig = nil }),
		"something behind":      with(func(f *signerForm) { f.sig = append(tlv(4, []byte{1}), null...) }),
		"behind, no attributes": with(func(f *signerForm) { f.attrs, f.sig = nil, append(tlv(4, []byte{1}), null...) }),
		"a set":                 tlv(0x31, with(func(*signerForm) {})[3:]),
	} {
		if what == "not in order" && bytes.Compare(told, kind) > 0 {
			b = attrs(told, kind)
		} else if what == "not in order" {
			b = attrs(kind, told)
		}
		wrongSigned(t, "P14.3, P14.4: "+what, plainSigned(oidPlain, nil, b).bytes(), api.ErrForm)
	}
}

func TestCmsIndirect(t *testing.T) {
	digest := bytes.Repeat([]byte{7}, 32)
	data := seq(oidPEData, seq())
	for _, b := range [][]byte{seq(data, seq(shaMethod, tlv(4, digest))), seq(seq(oidPEData, null), seq(shaBare, tlv(4, digest)))} {
		in := roomy(b)
		got, e := cms.Indirect(in)
		equal(t, "P14.5: Indirect", got, digest)
		wantErr(t, "P14.5: Indirect", e, 0)
		spoil(got)
		untouched(t, "R3: Indirect", in, b)
	}
	told := seq(shaMethod, tlv(4, digest))
	for what, b := range map[string][]byte{
		"nothing": nil, "SEQ{}": seq(), "another oid": seq(seq(oidCode, seq()), told), "no element": seq(seq(oidPEData), told), "two elements": seq(seq(oidPEData, null, null), told), "one part": seq(data), "three parts": seq(data, told, null),
		"another method": seq(data, seq(keyMethod, tlv(4, digest))), "31 bytes": seq(data, seq(shaMethod, tlv(4, digest[1:]))), "33 bytes": seq(data, seq(shaMethod, tlv(4, digest, []byte{7}))), "bits": seq(data, seq(shaMethod, tlv(3, digest))),
		"more": seq(data, seq(shaMethod, tlv(4, digest), null)), "no digest": seq(data, seq(shaMethod)), "sets": tlv(0x31, data, told), "a set": seq(data, tlv(0x31, shaMethod, tlv(4, digest))), "behind": append(seq(data, told), 0), "a data of tag 31": seq(tlv(0x31, oidPEData, seq()), told),
	} {
		if got, e := cms.Indirect(b); len(got) != 0 || e != api.ErrForm {
			t.Errorf("P14.5: %s: %x, %d", what, got, e)
		}
	}
	_, e := cms.Indirect(nested(17, 0x30, nil))
	wantErr(t, "P14.5: the error of der.Check", e, api.ErrBig)
}

// Whatever byte is turned, nothing panics, and no answer shares memory with another one.
func TestCmsTurned(t *testing.T) {
	r := random(20)
	f := plainSigner("i", 5, []byte{1, 2, 3})
	f.attrs = tlv(0xa0, attributes(oidPlain, [32]byte{7}))
	b := plainSigned(slices.Concat(oidCode, tlv(0xa0, seq(null))), [][]byte{plainCert("i", "s", someKey).bytes()}, f.bytes()).wrapped()
	for i := range b {
		x := bytes.Clone(b)
		x[i] ^= byte(1 + r.Intn(255))
		cms.Parse(x)
		cms.Indirect(x)
	}
	s, _ := cms.Parse(b)
	c := s.Certs[0]
	apart(t, "R3: Parse", b, s.Kind, s.Content, s.Signers[0].Issuer, s.Signers[0].Serial, s.Signers[0].Attrs, s.Signers[0].Kind, s.Signers[0].Digest, s.Signers[0].Sig, c.Raw, c.Tbs, c.Issuer, c.Subject, c.Serial, c.Key.N, c.Sig)
}
