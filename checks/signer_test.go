package checks

import (
	"bytes"
	"crypto/sha256"
	"fmt"
	"math"
	"reflect"
	"testing"

	"lintel/api"
	"lintel/cms"
	"lintel/signer"
)

// signedBy is signed data by A (attributes), B (none) and again A under another number, with certificates of others ahead.
func signedBy(digest [32]byte) api.Signed {
	cert := func(name string, serial byte, p pair) api.Cert {
		return api.Cert{Issuer: named(name), Subject: named("s"), Serial: []byte{serial}, Key: p.key, Raw: []byte{serial}, Tbs: []byte{1}, Sig: []byte{2}, Path: -1, Usage: -1}
	}
	attrs := tlv(0x31, attributes(oidPlain, digest))
	return api.Signed{
		Kind:    oidPlain[2:],
		Content: unhex("040107"),
		Certs:   []api.Cert{cert("a", 2, pairC), cert("b", 1, pairC), cert("a", 1, pairA), cert("b", 2, pairB), cert("a", 3, pairC), cert("a", 3, pairA)},
		Signers: []api.Signer{
			{Issuer: named("a"), Serial: []byte{1}, Attrs: attrs, Kind: oidPlain[2:], Digest: bytes.Clone(digest[:]), Sig: pairA.sign(attrs)},
			{Issuer: named("b"), Serial: []byte{2}, Sig: pairB.signDigest(digest)},
			{Issuer: named("a"), Serial: []byte{3}, Sig: pairA.signDigest(digest)},
			{Issuer: named("a"), Serial: []byte{9}, Sig: pairA.signDigest(digest)},
		},
	}
}

func TestSignerRight(t *testing.T) {
	digest := sha256.Sum256([]byte("text"))
	other := sha256.Sum256([]byte("other"))
	kind := oidPlain[2:]
	for _, c := range []struct {
		what   string
		k      int
		kind   []byte
		digest [32]byte
		change func(s *api.Signed)
		want   int // the certificate's place; below 0: none
	}{
		{"attributes", 0, kind, digest, nil, 2},
		{"no attributes", 1, kind, digest, nil, 3},
		{"no attributes, any kind", 1, []byte{1}, digest, nil, 3},
		{"no attributes, no kind", 1, nil, digest, nil, 3},
		{"another kind", 0, oidCode[2:], digest, nil, -1},
		{"no kind", 0, nil, digest, nil, -1},
		{"another digest", 0, kind, other, nil, -1},
		{"no attributes, another digest", 1, kind, other, nil, -1},
		{"the first certificate is not right", 2, kind, digest, nil, -1},
		{"no such certificate", 3, kind, digest, nil, -1},
		{"no such place", 4, kind, digest, nil, -1},
		{"the place -1", -1, kind, digest, nil, -1},
		{"the least place", math.MinInt, kind, digest, nil, -1},
		{"the greatest place", math.MaxInt, kind, digest, nil, -1},
		{"attributes that say something else", 0, kind, other, func(s *api.Signed) { s.Signers[0].Digest = other[:] }, 2},
		{"a longer digest", 0, kind, digest, func(s *api.Signed) { s.Signers[0].Digest = append(digest[:], 0) }, -1},
		{"a shorter digest", 0, kind, digest, func(s *api.Signed) { s.Signers[0].Digest = digest[:31] }, -1},
		{"other attributes", 0, kind, digest, func(s *api.Signed) { s.Signers[0].Attrs[9] ^= 1 }, -1},
		{"attributes that were not signed", 1, kind, digest, func(s *api.Signed) {
			s.Signers[1].Attrs, s.Signers[1].Kind, s.Signers[1].Digest = s.Signers[0].Attrs, kind, digest[:]
		}, -1},
		{"attributes taken away", 0, kind, digest, func(s *api.Signed) { s.Signers[0].Attrs = nil }, -1},
		{"attributes of one byte", 1, nil, digest, func(s *api.Signed) { s.Signers[1].Attrs = []byte{7} }, -1},
		{"attributes of one byte, signed", 1, kind, digest, func(s *api.Signed) {
			s.Signers[1].Attrs, s.Signers[1].Kind, s.Signers[1].Digest, s.Signers[1].Sig = []byte{7}, kind, digest[:], pairB.sign([]byte{7})
		}, 3},
		{"another signature", 1, kind, digest, func(s *api.Signed) { s.Signers[1].Sig[7] ^= 1 }, -1},
		{"another name", 1, kind, digest, func(s *api.Signed) { s.Certs[3].Issuer = named("c") }, -1},
		{"another number", 1, kind, digest, func(s *api.Signed) { s.Certs[3].Serial = []byte{0, 2} }, -1},
		{"other certificates", 1, kind, digest, func(s *api.Signed) { s.Certs[2], s.Certs[0] = api.Cert{}, api.Cert{} }, 3},
		{"other signers", 1, kind, digest, func(s *api.Signed) { s.Signers[0] = api.Signer{} }, 3},
		{"a certificate that may nothing", 1, kind, digest, func(s *api.Signed) { s.Certs[3].Usage, s.Certs[3].Ca, s.Certs[3].Path = 0, false, 0 }, 3},
	} {
		s := signedBy(digest)
		if c.change != nil {
			c.change(&s)
		}
		before := fmt.Sprint(s)
		got, ok := signer.Right(s, c.k, c.kind, c.digest)
		if c.want < 0 {
			if ok || !reflect.DeepEqual(got, api.Cert{}) {
				t.Errorf("P15.1: %s: %v", c.what, ok)
			}
			continue
		}
		if !ok || !reflect.DeepEqual(got, s.Certs[c.want]) {
			t.Errorf("P15.1: %s: %v, %v", c.what, got, ok)
		}
		for _, l := range [][]byte{got.Raw, got.Tbs, got.Issuer, got.Subject, got.Serial, got.Key.N, got.Sig} {
			spoil(l)
		}
		if fmt.Sprint(s) != before {
			t.Errorf("R3: %s: an answer is memory of what was handed in", c.what)
		}
	}
	if _, ok := signer.Right(api.Signed{}, 0, nil, digest); ok {
		t.Errorf("P15.1: Right of no signer")
	}
	empty := api.Signed{Signers: []api.Signer{{}}, Certs: []api.Cert{{}}}
	if _, ok := signer.Right(empty, 0, nil, digest); ok {
		t.Errorf("P15.1: nothing is right")
	}
}

// What was parsed is right, too: the attributes are signed as a set.
func TestSignerOfBytes(t *testing.T) {
	text := []byte("a text")
	digest := sha256.Sum256(text)
	f := plainSigner("i", 5, nil)
	attrs := attributes(oidPlain, digest)
	f.attrs, f.sig = tlv(0xa0, attrs), tlv(4, pairA.sign(tlv(0x31, attrs)))
	s, e := cms.Parse(plainSigned(oidPlain, [][]byte{plainCert("i", "s", pairA.key).bytes()}, f.bytes()).wrapped())
	if got, ok := signer.Right(s, 0, oidPlain[2:], digest); e != 0 || !ok || !bytes.Equal(got.Subject, named("s")) {
		t.Errorf("P15.1: Right of what was parsed: %d, %v", e, ok)
	}
}

func TestSignerOf(t *testing.T) {
	for s, want := range map[string]string{"040107": "07", "3003020101": "020101", "0500": ""} {
		got, ok := signer.Of(api.Signed{Content: unhex(s)})
		if !ok || got != sha256.Sum256(unhex(want)) {
			t.Errorf("P15.2: Of %s: %x, %v", s, got, ok)
		}
	}
	for _, s := range []string{"", "0401", "04010700", "04010705", "1f00", "040107040107"} {
		if got, ok := signer.Of(api.Signed{Content: unhex(s)}); ok || got != [32]byte{} {
			t.Errorf("P15.2: Of %s: %x, %v", s, got, ok)
		}
	}
}
