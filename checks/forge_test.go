package checks

import (
	"bytes"
	"crypto/sha256"
	"encoding/binary"
	"math/big"
	"slices"

	"lintel/api"
	"lintel/cert"
)

// encoded is the encoded message of a digest, written apart from the program.
func encoded(digest [32]byte, n int) []byte {
	b := make([]byte, n)
	for i := range b {
		b[i] = 0xff
	}
	b[0], b[1], b[n-52] = 0, 1, 0
	copy(b[n-51:], unhex("3031300d060960864801650304020105000420"))
	copy(b[n-32:], digest[:])
	return b
}

// madeKey is a key of 256 bytes and the exponent 3, and a signature that is right under it for a digest: the number s is chosen, and the modulus is its cube less the message. The higher the salt, the higher s.
func madeKey(digest [32]byte, salt int64) (api.Key, []byte) {
	s := new(big.Int).Lsh(big.NewInt(3), 681)
	s.Add(s, big.NewInt(2*salt))
	if digest[31]%2 == 0 {
		s.Add(s, big.NewInt(1))
	}
	n := new(big.Int).Exp(s, big.NewInt(3), nil)
	n.Sub(n, new(big.Int).SetBytes(encoded(digest, 256)))
	return api.Key{N: n.Bytes(), E: 3}, s.FillBytes(make([]byte, 256))
}

// pair is a key that signs any number of texts.
type pair struct {
	key api.Key
	d   *big.Int
}

// newPair is a pair of the primes p and q, which stand as digits to the base 16.
func newPair(p, q string, e int64) pair {
	a, _ := new(big.Int).SetString(p, 16)
	b, _ := new(big.Int).SetString(q, 16)
	one := big.NewInt(1)
	phi := new(big.Int).Mul(new(big.Int).Sub(a, one), new(big.Int).Sub(b, one))
	d := new(big.Int).ModInverse(big.NewInt(e), phi)
	return pair{api.Key{N: new(big.Int).Mul(a, b).Bytes(), E: uint64(e)}, d}
}

// sign is the signature of the text, by the digest of it.
func (p pair) sign(text []byte) []byte {
	return p.signDigest(sha256.Sum256(text))
}

func (p pair) signDigest(digest [32]byte) []byte {
	m := new(big.Int).SetBytes(encoded(digest, len(p.key.N)))
	m.Exp(m, p.d, new(big.Int).SetBytes(p.key.N))
	return m.FillBytes(make([]byte, len(p.key.N)))
}

// tlv is an element, written apart from the program.
func tlv(tag byte, parts ...[]byte) []byte {
	body := slices.Concat(parts...)
	head := []byte{tag}
	switch n := len(body); {
	case n < 128:
		head = append(head, byte(n))
	case n < 256:
		head = append(head, 0x81, byte(n))
	case n < 65536:
		head = append(head, 0x82, byte(n>>8), byte(n))
	default:
		head = append(head, 0x83, byte(n>>16), byte(n>>8), byte(n))
	}
	return append(head, body...)
}

func seq(parts ...[]byte) []byte { return tlv(0x30, parts...) }

// integer is the INTEGER of a number.
func integer(n *big.Int) []byte {
	b := n.Bytes()
	if len(b) == 0 || b[0] >= 0x80 {
		b = append([]byte{0}, b...)
	}
	return tlv(2, b)
}

func bits(whole []byte) []byte { return tlv(3, []byte{0}, whole) }

var (
	null       = unhex("0500")
	signMethod = seq(unhex("06092a864886f70d01010b"), null)
	keyMethod  = seq(unhex("06092a864886f70d010101"), null)
)

// named is a name, as certificates have them.
func named(s string) []byte {
	return seq(tlv(0x31, seq(unhex("0603550403"), tlv(0x0c, []byte(s)))))
}

// keyOf is a certificate's part that tells a key.
func keyOf(k api.Key) []byte {
	return seq(keyMethod, bits(seq(integer(new(big.Int).SetBytes(k.N)), integer(new(big.Int).SetUint64(k.E)))))
}

// certForm are the elements of a certificate, each of which a test may replace.
type certForm struct {
	version, serial, sign, issuer, span, subject, key []byte
	exts                                              []byte // with its tag; none: nothing
	behind                                            []byte // what stands behind these
	outer, sig                                        []byte
}

func (f certForm) tbs() []byte {
	return seq(f.version, f.serial, f.sign, f.issuer, f.span, f.subject, f.key, f.exts, f.behind)
}

func (f certForm) bytes() []byte { return seq(f.tbs(), f.outer, f.sig) }

// span is two moments of twelve digits.
func span(from, to string) []byte {
	return seq(tlv(0x17, []byte(from+"Z")), tlv(0x17, []byte(to+"Z")))
}

// plainCert is a form that is right, with a signature that isn't.
func plainCert(issuer, subject string, k api.Key, exts ...[]byte) certForm {
	f := certForm{
		version: unhex("a003020102"), serial: unhex("020105"), sign: signMethod, issuer: named(issuer), span: span("200102030405", "300102030405"),
		subject: named(subject), key: keyOf(k), outer: signMethod, sig: bits([]byte{1, 2, 3}),
	}
	if len(exts) > 0 {
		f.exts = tlv(0xa3, seq(exts...))
	}
	return f
}

// extension is one with the last arcs of its OID behind 2.5.29, in an element of octets.
func extension(last byte, critical bool, inner []byte) []byte {
	truth := []byte(nil)
	if critical {
		truth = unhex("0101ff")
	}
	return seq(tlv(6, []byte{0x55, 0x1d, last}), truth, tlv(4, inner))
}

// caExt says that a certificate may sign others; path below 0: without an end.
func caExt(path int) []byte {
	if path < 0 {
		return extension(19, true, unhex("30030101ff"))
	}
	return extension(19, true, seq(unhex("0101ff"), integer(big.NewInt(int64(path)))))
}

var (
	shaMethod  = seq(unhex("0609608648016503040201"), null)
	shaBare    = seq(unhex("0609608648016503040201"))
	oidPlain   = unhex("06092a864886f70d010701") // the kind of content that is bytes
	oidSigned  = unhex("06092a864886f70d010702")
	oidCode    = unhex("060a2b060104018237020104") // the kind of content that is an image's digest
	oidPEData  = unhex("060a2b06010401823702010f")
	oidKindOf  = unhex("06092a864886f70d010903")
	oidDigest  = unhex("06092a864886f70d010904")
	oneInteger = unhex("020101")
)

// inOrder are parts in the order of a set.
func inOrder(parts ...[]byte) []byte {
	sorted := slices.Clone(parts)
	slices.SortFunc(sorted, bytes.Compare)
	return slices.Concat(sorted...)
}

// attribute is one with an OID and a value.
func attribute(oid, value []byte) []byte { return seq(oid, tlv(0x31, value)) }

// attributes are those of a kind (an OID) and a digest, as the body of a set.
func attributes(kind []byte, digest [32]byte) []byte {
	return inOrder(attribute(oidKindOf, kind), attribute(oidDigest, tlv(4, digest[:])))
}

// signerForm are the elements of a signer, each of which a test may replace.
type signerForm struct {
	version, name, digest, attrs, method, sig []byte
}

func (f signerForm) bytes() []byte {
	return seq(f.version, f.name, f.digest, f.attrs, f.method, f.sig)
}

// plainSigner is a signer of an issuer's name and a serial's body.
func plainSigner(issuer string, serial byte, sig []byte) signerForm {
	return signerForm{version: oneInteger, name: seq(named(issuer), tlv(2, []byte{serial})), digest: shaMethod, method: keyMethod, sig: tlv(4, sig)}
}

// signedForm are the elements of signed data.
type signedForm struct {
	version, methods, content, certs, signers, behind []byte
}

func (f signedForm) bytes() []byte {
	return seq(f.version, f.methods, f.content, f.certs, f.signers, f.behind)
}

// wrapped is the same, wrapped.
func (f signedForm) wrapped() []byte { return seq(oidSigned, tlv(0xa0, f.bytes())) }

// plainSigned is signed data of a content (all parts of its SEQ), certificates and signers.
func plainSigned(content []byte, certs [][]byte, signers ...[]byte) signedForm {
	f := signedForm{version: oneInteger, methods: tlv(0x31, shaMethod), content: seq(content), signers: tlv(0x31, inOrder(signers...))}
	if len(certs) > 0 {
		f.certs = tlv(0xa0, certs...)
	}
	return f
}

// imageForm is an image that is made as a test wants it.
type imageForm struct {
	pe       int // where `PE` stands
	plus     bool
	dirs     int      // entries of the directories
	count    int      // sections, as told; those that are not laid have no bytes
	headers  int      // how many bytes the headers have
	sections [][2]int // from where, and how many bytes
	length   int      // of the whole without a certificate table
	sigs     [][]byte
	fill     byte // what all other bytes are
}

// plainImage has headers of 400 bytes, a section of 8 and 4 bytes behind it.
func plainImage(sigs ...[]byte) imageForm {
	return imageForm{pe: 64, dirs: 5, count: 1, headers: 400, sections: [][2]int{{400, 8}}, length: 412, sigs: sigs}
}

// optional is where the optional header begins; dir where the entry of the certificate table stands; table where the sections' table begins.
func (f imageForm) optional() int { return f.pe + 24 }

func (f imageForm) dirsAt() int {
	if f.plus {
		return f.optional() + 112
	}
	return f.optional() + 96
}

func (f imageForm) dir() int { return f.dirsAt() + 32 }

func (f imageForm) table() int { return f.dirsAt() + 8*f.dirs }

// row is one of a certificate table.
func row(sig []byte) []byte {
	b := binary.LittleEndian.AppendUint32(nil, uint32(len(sig)+8))
	b = append(append(b, 0, 2, 2, 0), sig...)
	for len(b)%8 != 0 {
		b = append(b, 0)
	}
	return b
}

func (f imageForm) bytes() []byte {
	b := bytes.Repeat([]byte{f.fill}, f.length)
	le := binary.LittleEndian
	copy(b, "MZ")
	le.PutUint32(b[60:], uint32(f.pe))
	copy(b[f.pe:], "PE\x00\x00")
	le.PutUint16(b[f.pe+6:], uint16(f.count))
	le.PutUint16(b[f.pe+20:], uint16(f.table()-f.optional()))
	magic := uint16(0x10b)
	if f.plus {
		magic = 0x20b
	}
	le.PutUint16(b[f.optional():], magic)
	le.PutUint32(b[f.optional()+60:], uint32(f.headers))
	le.PutUint32(b[f.dirsAt()-4:], uint32(f.dirs))
	le.PutUint64(b[f.dir():], 0)
	for i := range f.count {
		var s [2]int
		if i < len(f.sections) {
			s = f.sections[i]
		}
		le.PutUint32(b[f.table()+40*i+16:], uint32(s[1]))
		le.PutUint32(b[f.table()+40*i+20:], uint32(s[0]))
	}
	if len(f.sigs) == 0 {
		return b
	}
	for len(b)%8 != 0 {
		b = append(b, 0)
	}
	at := len(b)
	for _, s := range f.sigs {
		b = append(b, row(s)...)
	}
	le.PutUint32(b[f.dir():], uint32(at))
	le.PutUint32(b[f.dir()+4:], uint32(len(b)-at))
	return b
}

// person is somebody with a name, a key and a certificate, who signs.
type person struct {
	name, issuer string
	serial       byte
	key          pair
	cert         []byte
}

// newPerson has a certificate by another one; without one it is signed by itself.
func newPerson(name string, key pair, by *person, exts ...[]byte) *person {
	p := &person{name: name, issuer: name, serial: 5, key: key}
	signs := key
	if by != nil {
		p.issuer, signs = by.name, by.key
	}
	f := plainCert(p.issuer, name, key.key, exts...)
	f.sig = bits(signs.sign(f.tbs()))
	p.cert = f.bytes()
	return p
}

// signs is a signer of a person over the digest of a content of a kind: with attributes or without.
func (p *person) signs(kind []byte, digest [32]byte, withAttrs bool) []byte {
	f := plainSigner(p.issuer, p.serial, nil)
	if !withAttrs {
		f.sig = tlv(4, p.key.signDigest(digest))
		return f.bytes()
	}
	attrs := attributes(kind, digest)
	f.attrs, f.sig = tlv(0xa0, attrs), tlv(4, p.key.sign(tlv(0x31, attrs)))
	return f.bytes()
}

// blobOf is signed data over a text by a person, with further certificates.
func (p *person) blobOf(text []byte, more ...[]byte) []byte {
	certs := append([][]byte{p.cert}, more...)
	return plainSigned(oidPlain, certs, p.signs(oidPlain, sha256.Sum256(text), true)).bytes()
}

// Those who sign in tests: the owner of the platform, who may turn PK and KEK; one with a KEK, and one whom he lets sign; one of whom nobody knows.
var (
	owner    = newPerson("owner", pairA, nil, caExt(-1))
	keeper   = newPerson("keeper", pairB, nil, caExt(-1))
	deputy   = newPerson("deputy", pairC, keeper)
	stranger = newPerson("stranger", pairC, nil, caExt(-1))
)

// digest is that of the image, which its signatures do not turn; its length must be a multiple of 8.
func (f imageForm) digest() [32]byte {
	f.sigs = nil
	b := f.bytes()
	if len(b)%8 != 0 {
		panic("an image that a certificate table makes longer")
	}
	check := f.optional() + 64
	return sum(slices.Concat(b[:check], b[check+4:f.dir()], b[f.dir()+8:]))
}

// codeContent is what signatures of images sign: their digest.
func codeContent(digest [32]byte) []byte {
	return seq(seq(oidPEData, seq()), seq(shaMethod, tlv(4, digest[:])))
}

// codeBlob is signed data that tells an image's digest, of certificates and signers, each of which signs the digest of that content.
func codeBlob(digest [32]byte, certs [][]byte, signers ...func(own [32]byte) []byte) []byte {
	content := codeContent(digest)
	own := sum(content[2:]) // the content has fewer than 128 bytes
	var l [][]byte
	for _, s := range signers {
		l = append(l, s(own))
	}
	return plainSigned(slices.Concat(oidCode, tlv(0xa0, content)), certs, l...).bytes()
}

// code is how a person signs images.
func (p *person) code(own [32]byte) []byte { return p.signs(oidCode, own, true) }

// image is one whose bytes are told by a number, signed by persons, each in a blob of its own with these certificates.
func image(fill byte, certs [][]byte, signers ...*person) []byte {
	f := plainImage()
	f.length, f.fill = 416, fill
	d := f.digest()
	for _, s := range signers {
		f.sigs = append(f.sigs, codeBlob(d, append([][]byte{s.cert}, certs...), s.code))
	}
	return f.bytes()
}

// imageDigest is the digest of image(fill, ..).
func imageDigest(fill byte) [32]byte {
	f := plainImage()
	f.length, f.fill = 416, fill
	return f.digest()
}

// digestList is a list of one digest.
func digestList(d [32]byte) []byte { return listBytes(listGuids[api.KindHash], 1, d[:]) }

// partOf is the digest of a certificate's signed part.
func partOf(c []byte) [32]byte {
	x, _ := cert.Parse(c)
	return sum(x.Tbs)
}
