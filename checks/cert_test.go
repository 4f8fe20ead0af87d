package checks

import (
	"bytes"
	"crypto/rand"
	stdrsa "crypto/rsa"
	"crypto/x509"
	"crypto/x509/pkix"
	"math/big"
	"reflect"
	"testing"
	"time"

	"lintel/api"
	"lintel/cert"
)

// someKey is what may stand in a certificate; whether it is a key is not asked there.
var someKey = api.Key{N: []byte{0x91, 2, 3}, E: 65537}

// wantCert fails the test unless bytes are read as that form, and the rest as told.
func wantCert(t *testing.T, what string, f certForm, want api.Cert) {
	t.Helper()
	b := roomy(f.bytes())
	got, e := cert.Parse(b)
	want.Raw, want.Tbs = f.bytes(), f.tbs()
	if e != 0 || !reflect.DeepEqual(plain(got), plain(want)) {
		t.Errorf("%s: Parse: %+v, %d; want %+v", what, got, e, want)
	}
	untouched(t, "R3: Parse", b, f.bytes())
}

// plain is a certificate whose empty lists are nil.
func plain(c api.Cert) api.Cert {
	for _, l := range []*[]byte{&c.Raw, &c.Tbs, &c.Issuer, &c.Subject, &c.Serial, &c.Key.N, &c.Sig} {
		if len(*l) == 0 {
			*l = nil
		}
	}
	return c
}

func wrongCert(t *testing.T, what string, b []byte, want api.Errno) {
	t.Helper()
	got, e := cert.Parse(b)
	if e != want || !reflect.DeepEqual(got, api.Cert{}) {
		t.Errorf("%s: Parse: %+v, %d; want %d", what, got, e, want)
	}
}

// readAs is what plainCert(issuer, subject, someKey) is read as.
func readAs(issuer, subject string) api.Cert {
	return api.Cert{
		Issuer: named(issuer), Subject: named(subject), Serial: []byte{5}, Key: someKey, Sig: []byte{1, 2, 3}, Path: -1, Usage: -1, Code: true,
		From: api.Time{Year: 2020, Month: 1, Day: 2, Hour: 3, Minute: 4, Second: 5}, To: api.Time{Year: 2030, Month: 1, Day: 2, Hour: 3, Minute: 4, Second: 5},
	}
}

func TestCertPlain(t *testing.T) {
	f := plainCert("i", "s", someKey)
	wantCert(t, "P12.1", f, readAs("i", "s"))
	b := f.bytes()
	for n := range b {
		wrongCert(t, "what follows: a certificate that is cut", b[:n], api.ErrForm)
	}
	wrongCert(t, "what follows: something behind it", append(bytes.Clone(b), 0), api.ErrForm)
	wrongCert(t, "what follows: twice", append(bytes.Clone(b), b...), api.ErrForm)
	wrongCert(t, "P12.1: nothing", nil, api.ErrForm)
	wrongCert(t, "P12.1: SEQ{}", seq(), api.ErrForm)
	wrongCert(t, "P12.1: 8193 bytes", make([]byte, 8193), api.ErrBig)
	wrongCert(t, "P12.1: elements that lie too deep", nested(17, 0x30, nil), api.ErrBig)
	wrongCert(t, "P12.1: 8193 bytes", append(seq(make([]byte, 8189)), 0), api.ErrBig)
}

// big is a certificate of so many bytes.
func bigCert(n int) certForm {
	f := plainCert("i", "s", someKey)
	f.sig = bits(make([]byte, n-len(f.bytes())-10))
	for len(f.bytes()) < n {
		f.sig = bits(make([]byte, len(f.sig)-4))
	}
	for fill := n - len(f.bytes()) + len(f.sig); len(f.bytes()) != n; fill-- {
		f.sig = bits(make([]byte, fill))
	}
	return f
}

func TestCertSize(t *testing.T) {
	if _, e := cert.Parse(bigCert(8192).bytes()); e != 0 {
		t.Errorf("P12.1: 8192 bytes: %d", e)
	}
	wrongCert(t, "P12.1: 8193 bytes", bigCert(8193).bytes(), api.ErrBig)
}

func TestCertParts(t *testing.T) {
	right := func(what string, f certForm, change func(c *api.Cert)) {
		t.Helper()
		c := readAs("i", "s")
		change(&c)
		wantCert(t, what, f, c)
	}
	with := func(change func(f *certForm)) certForm {
		f := plainCert("i", "s", someKey)
		change(&f)
		return f
	}
	serial := func(b []byte) certForm { return with(func(f *certForm) { f.serial = tlv(2, b) }) }
	for _, b := range [][]byte{{1}, {0, 0x80}, {0, 0xff, 1}, bytes.Repeat([]byte{1}, 20), append([]byte{0}, ff(19)...)} {
		right("P12.2: a serial", serial(b), func(c *api.Cert) { c.Serial = b })
	}
	for _, b := range [][]byte{nil, {0}, {0x80}, {0, 1}, bytes.Repeat([]byte{1}, 21), append([]byte{0}, ff(20)...)} {
		wrongCert(t, "P12.2: a serial", serial(b).bytes(), api.ErrForm)
	}
	right("P12.2: names of anything", with(func(f *certForm) { f.issuer, f.subject = seq(), seq(tlv(2, []byte{0, 0})) }), func(c *api.Cert) { c.Issuer, c.Subject = seq(), seq(tlv(2, []byte{0, 0})) })
	right("P12.1: no bits", with(func(f *certForm) { f.sig = bits(nil) }), func(c *api.Cert) { c.Sig = nil })
	for what, f := range map[string]certForm{
		"another version":      with(func(f *certForm) { f.version = unhex("a003020101") }),
		"a version 02 00":      with(func(f *certForm) { f.version = unhex("a00402020002") }),
		"a long version":       with(func(f *certForm) { f.version = unhex("a00a02080100000000000002") }),
		"a version of no tag":  with(func(f *certForm) { f.version = unhex("020102") }),
		"a version and more":   with(func(f *certForm) { f.version = unhex("a0060201020500") }),
		"an empty version":     with(func(f *certForm) { f.version = unhex("a000") }),
		"no version":           with(func(f *certForm) { f.version = nil }),
		"a1 for a version":     with(func(f *certForm) { f.version = unhex("a103020102") }),
		"no serial":            with(func(f *certForm) { f.serial = nil }),
		"octets for a serial":  with(func(f *certForm) { f.serial = unhex("040105") }),
		"another method":       with(func(f *certForm) { f.sign = keyMethod }),
		"another outer method": with(func(f *certForm) { f.outer = keyMethod }),
		"a method, no null":    with(func(f *certForm) { f.sign = seq(unhex("06092a864886f70d01010b")) }),
		"a null with a body":   with(func(f *certForm) { f.sign = seq(unhex("06092a864886f70d01010b"), unhex("050100")) }),
		"a method and more":    with(func(f *certForm) { f.outer = seq(unhex("06092a864886f70d01010b"), null, null) }),
		"a longer method":      with(func(f *certForm) { f.sign = seq(unhex("060a2a864886f70d01010b01"), null) }),
		"a set for a name":     with(func(f *certForm) { f.issuer = tlv(0x31) }),
		"a set for a subject":  with(func(f *certForm) { f.subject = tlv(0x31) }),
		"no subject":           with(func(f *certForm) { f.subject = nil }),
		"one moment":           with(func(f *certForm) { f.span = seq(tlv(0x17, []byte("200102030405Z"))) }),
		"three moments": with(func(f *certForm) {
			f.span = seq(tlv(0x17, []byte("200102030405Z")), tlv(0x17, []byte("200102030405Z")), tlv(0x17, []byte("200102030405Z")))
		}),
		"no moment":    with(func(f *certForm) { f.span = span("201302030405", "300102030405") }),
		"an end ahead": with(func(f *certForm) { f.span = span("200102030405", "200102030404") }),
		"a long utc": with(func(f *certForm) {
			f.span = seq(tlv(0x17, []byte("20200102030405Z")), tlv(0x17, []byte("300102030405Z")))
		}),
		"a short general": with(func(f *certForm) {
			f.span = seq(tlv(0x18, []byte("200102030405Z")), tlv(0x17, []byte("300102030405Z")))
		}),
		"a moment of tag 19": with(func(f *certForm) {
			f.span = seq(tlv(0x19, []byte("200102030405Z")), tlv(0x17, []byte("300102030405Z")))
		}),
		"another key method": with(func(f *certForm) { f.key = seq(signMethod, bits(seq(integer(big.NewInt(9)), integer(big.NewInt(3))))) }),
		"a key of three": with(func(f *certForm) {
			f.key = seq(keyMethod, bits(seq(tlv(2, []byte{1}), tlv(2, []byte{1}), tlv(2, []byte{1}))))
		}),
		"a key of one":         with(func(f *certForm) { f.key = seq(keyMethod, bits(seq(tlv(2, []byte{1})))) }),
		"a key and more":       with(func(f *certForm) { f.key = seq(keyMethod, bits(append(seq(tlv(2, []byte{1}), tlv(2, []byte{1})), 0))) }),
		"a key below 0":        with(func(f *certForm) { f.key = seq(keyMethod, bits(seq(tlv(2, []byte{0x80}), tlv(2, []byte{1})))) }),
		"a key and an element": with(func(f *certForm) { f.key = seq(keyMethod, bits(seq(tlv(2, []byte{1}), tlv(2, []byte{1}))), null) }),
		"a key of part bits": with(func(f *certForm) {
			f.key = seq(keyMethod, tlv(3, []byte{1}, seq(tlv(2, []byte{1}), tlv(2, []byte{2}))))
		}),
		"no bits of a key": with(func(f *certForm) { f.key = seq(keyMethod, bits(nil)) }),
		"E 2^33":           with(func(f *certForm) { f.key = keyOf(api.Key{N: []byte{1}, E: 1 << 33}) }),
		"E 2^63":           with(func(f *certForm) { f.key = keyOf(api.Key{N: []byte{1}, E: 1 << 63}) }),
		"E 2^64": with(func(f *certForm) {
			f.key = seq(keyMethod, bits(seq(tlv(2, []byte{1}), tlv(2, []byte{1, 0, 0, 0, 0, 0, 0, 0, 3}))))
		}),
		"part of a signature":  with(func(f *certForm) { f.sig = tlv(3, []byte{1, 2}) }),
		"octets of signature":  with(func(f *certForm) { f.sig = tlv(4, []byte{0, 2}) }),
		"no signature":         with(func(f *certForm) { f.sig = nil }),
		"more behind the sig":  with(func(f *certForm) { f.sig = append(bytes.Clone(f.sig), null...) }),
		"more in the tbs":      with(func(f *certForm) { f.behind = null }),
		"more behind the exts": with(func(f *certForm) { f.exts, f.behind = tlv(0xa3, seq(caExt(-1))), null }),
		"a unique id":          with(func(f *certForm) { f.behind = unhex("810100") }),
		"exts of tag a2":       with(func(f *certForm) { f.exts = tlv(0xa2, seq(caExt(-1))) }),
		"exts without a seq":   with(func(f *certForm) { f.exts = tlv(0xa3, caExt(-1)) }),
		"no exts in it":        with(func(f *certForm) { f.exts = tlv(0xa3, seq()) }),
		"nothing in exts":      with(func(f *certForm) { f.exts = tlv(0xa3) }),
		"exts twice":           with(func(f *certForm) { f.exts = tlv(0xa3, seq(caExt(-1)), seq(caExt(-1))) }),
	} {
		wrongCert(t, "P12.1, P12.2: "+what, f.bytes(), api.ErrForm)
	}
	right("P12.2: E at its end", with(func(f *certForm) { f.key = keyOf(api.Key{N: []byte{1}, E: 1<<33 - 1}) }), func(c *api.Cert) { c.Key = api.Key{N: []byte{1}, E: 1<<33 - 1} })
	right("P12.2: a key of noughts", with(func(f *certForm) { f.key = keyOf(api.Key{}) }), func(c *api.Cert) { c.Key = api.Key{} })
	right("P12.2: moments alike", with(func(f *certForm) { f.span = span("300102030405", "300102030405") }), func(c *api.Cert) { c.From = c.To })
	general := seq(tlv(0x18, []byte("19000101000000Z")), tlv(0x18, []byte("99991231235959Z")))
	right("P12.2: general moments", with(func(f *certForm) { f.span = general }), func(c *api.Cert) {
		c.From, c.To = api.Time{Year: 1900, Month: 1, Day: 1}, api.Time{Year: 9999, Month: 12, Day: 31, Hour: 23, Minute: 59, Second: 59}
	})
}

func TestCertExtensions(t *testing.T) {
	for what, c := range map[string]struct {
		exts   [][]byte
		change func(c *api.Cert)
	}{
		"no authority":       {[][]byte{extension(19, true, unhex("3000"))}, func(*api.Cert) {}},
		"an authority":       {[][]byte{extension(19, false, unhex("30030101ff"))}, func(c *api.Cert) { c.Ca = true }},
		"a path":             {[][]byte{extension(19, true, unhex("30060101ff020103"))}, func(c *api.Cert) { c.Ca, c.Path = true, 3 }},
		"a path 0":           {[][]byte{extension(19, true, unhex("30060101ff020100"))}, func(c *api.Cert) { c.Ca, c.Path = true, 0 }},
		"a path 255":         {[][]byte{extension(19, true, unhex("30070101ff020200ff"))}, func(c *api.Cert) { c.Ca, c.Path = true, 255 }},
		"usage 0, 5":         {[][]byte{extension(15, true, unhex("03020284"))}, func(c *api.Cert) { c.Usage = 33 }},
		"usage 0, 2":         {[][]byte{extension(15, false, unhex("030205a0"))}, func(c *api.Cert) { c.Usage = 5 }},
		"usage 0":            {[][]byte{extension(15, true, unhex("03020780"))}, func(c *api.Cert) { c.Usage = 1 }},
		"usage 8":            {[][]byte{extension(15, true, unhex("0303070080"))}, func(c *api.Cert) { c.Usage = 256 }},
		"usage 0 to 7":       {[][]byte{extension(15, true, unhex("030200ff"))}, func(c *api.Cert) { c.Usage = 255 }},
		"purposes":           {[][]byte{extension(37, true, seq(unhex("06082b06010505070301")))}, func(c *api.Cert) { c.Code = false }},
		"code":               {[][]byte{extension(37, false, seq(unhex("06082b06010505070301"), unhex("06082b06010505070303")))}, func(c *api.Cert) {}},
		"code first":         {[][]byte{extension(37, false, seq(unhex("06082b06010505070303"), unhex("06082b06010505070301")))}, func(c *api.Cert) {}},
		"code and more arcs": {[][]byte{extension(37, false, seq(unhex("06092b0601050507030301")))}, func(c *api.Cert) { c.Code = false }},
		"others":             {[][]byte{extension(14, false, unhex("ffff")), extension(18, false, nil)}, func(*api.Cert) {}},
		"longer ones":        {[][]byte{seq(unhex("0604551d1301"), tlv(4)), seq(unhex("0602551d"), tlv(4))}, func(*api.Cert) {}},
		"all": {[][]byte{extension(37, true, seq(unhex("06022a03"))), extension(15, true, unhex("03020204")), caExt(7), extension(99, false, nil)}, func(c *api.Cert) {
			c.Ca, c.Path, c.Usage, c.Code = true, 7, 32, false
		}},
	} {
		want := readAs("i", "s")
		c.change(&want)
		wantCert(t, "P12.3 to P12.6: "+what, plainCert("i", "s", someKey, c.exts...), want)
	}
	for what, exts := range map[string][][]byte{
		"critical, not known":   {extension(14, true, nil)},
		"longer, critical":      {seq(unhex("0604551d1301"), unhex("0101ff"), tlv(4))},
		"twice":                 {caExt(-1), caExt(-1)},
		"twice, not known":      {extension(14, false, nil), caExt(-1), extension(14, false, []byte{1})},
		"false":                 {seq(unhex("0603551d13"), unhex("010100"), tlv(4, unhex("3000")))},
		"another true":          {seq(unhex("0603551d13"), unhex("010101"), tlv(4, unhex("3000")))},
		"a long true":           {seq(unhex("0603551d0e"), unhex("0102ffff"), tlv(4, unhex("3000")))},
		"no octets":             {seq(unhex("0603551d0e"))},
		"bits":                  {seq(unhex("0603551d0e"), tlv(3, []byte{0}))},
		"octets and more":       {seq(unhex("0603551d0e"), tlv(4), null)},
		"no oid":                {seq(tlv(4))},
		"a wrong oid":           {seq(unhex("06028001"), tlv(4))},
		"an empty oid":          {seq(unhex("0600"), tlv(4))},
		"a set":                 {tlv(0x31, unhex("0603551d0e"), tlv(4))},
		"constraints, more":     {extension(19, true, unhex("300005"))},
		"constraints, two":      {extension(19, true, unhex("30003000"))},
		"constraints, none":     {extension(19, true, nil)},
		"constraints, a set":    {extension(19, true, unhex("3100"))},
		"constraints, no bool":  {extension(19, true, unhex("30030201ff"))},
		"constraints, false":    {extension(19, true, unhex("3003010100"))},
		"constraints, path":     {extension(19, true, unhex("3003020103"))},
		"constraints, 256":      {extension(19, true, unhex("30070101ff02020100"))},
		"constraints, below 0":  {extension(19, true, unhex("30060101ff0201ff"))},
		"constraints, three":    {extension(19, true, unhex("30080101ff0201030500"))},
		"constraints, cut":      {extension(19, true, unhex("30030101"))},
		"usage, last bit 0":     {extension(15, true, unhex("03020280"))},
		"usage, none":           {extension(15, true, unhex("030100"))},
		"usage, nothing":        {extension(15, true, nil)},
		"usage, whole 0":        {extension(15, true, unhex("030200fe"))},
		"usage, unused 1":       {extension(15, true, unhex("030204f8"))},
		"usage, ten bits":       {extension(15, true, unhex("0303060040"))},
		"usage, 16 bits":        {extension(15, true, unhex("0303000001"))},
		"usage, octets":         {extension(15, true, unhex("04020780"))},
		"usage, more":           {extension(15, true, unhex("0302078000"))},
		"purposes, none":        {extension(37, true, seq())},
		"purposes, a wrong oid": {extension(37, true, seq(unhex("06082b06010505070303"), unhex("06012a80")[:3], unhex("0600")))},
		"purposes, no oid":      {extension(37, true, seq(unhex("06082b06010505070303"), null))},
		"purposes, a set":       {extension(37, true, tlv(0x31, unhex("06082b06010505070303")))},
		"purposes, an oid":      {extension(37, true, unhex("06082b06010505070303"))},
		"purposes, cut":         {extension(37, true, unhex("300306082b"))},
	} {
		wrongCert(t, "P12.3 to P12.6: "+what, plainCert("i", "s", someKey, exts...).bytes(), api.ErrForm)
	}
}

func TestCertIsReadAlikeElsewhere(t *testing.T) {
	d := pairA
	private := &stdrsa.PrivateKey{PublicKey: stdrsa.PublicKey{N: new(big.Int).SetBytes(d.key.N), E: 65537}, D: d.d}
	p, _ := new(big.Int).SetString(primeA1, 16)
	q, _ := new(big.Int).SetString(primeA2, 16)
	private.Primes = []*big.Int{p, q}
	from := time.Date(2049, 1, 2, 3, 4, 5, 0, time.UTC)
	form := &x509.Certificate{
		SerialNumber: big.NewInt(0x80aa), Subject: pkix.Name{CommonName: "both"}, NotBefore: from, NotAfter: from.AddDate(2, 0, 0), BasicConstraintsValid: true, IsCA: true, MaxPathLen: 2,
		KeyUsage: x509.KeyUsageCertSign | x509.KeyUsageDigitalSignature, ExtKeyUsage: []x509.ExtKeyUsage{x509.ExtKeyUsageServerAuth},
	}
	raw, err := x509.CreateCertificate(rand.Reader, form, form, private.Public(), private)
	if err != nil {
		t.Fatal(err)
	}
	there, _ := x509.ParseCertificate(raw)
	want := api.Cert{
		Raw: raw, Tbs: there.RawTBSCertificate, Issuer: there.RawIssuer, Subject: there.RawSubject, Serial: []byte{0, 0x80, 0xaa}, Key: d.key, Sig: there.Signature, Ca: true, Path: 2, Usage: 33,
		From: api.Time{Year: 2049, Month: 1, Day: 2, Hour: 3, Minute: 4, Second: 5}, To: api.Time{Year: 2051, Month: 1, Day: 2, Hour: 3, Minute: 4, Second: 5},
	}
	if got, e := cert.Parse(raw); e != 0 || !reflect.DeepEqual(got, want) {
		t.Errorf("P12.1: Parse: %+v, %d; want %+v", got, e, want)
	}
}

func TestCertAnswersAreNewMemory(t *testing.T) {
	b := plainCert("i", "s", someKey).bytes()
	c, _ := cert.Parse(b)
	apart(t, "R3: Parse", b, c.Raw, c.Tbs, c.Issuer, c.Subject, c.Serial, c.Key.N, c.Sig)
}

// Whatever byte is turned: nothing panics, and what is still read tells the bytes that it was read from.
func TestCertTurned(t *testing.T) {
	f := plainCert("i", "s", someKey, caExt(3), extension(15, true, unhex("03020284")), extension(37, false, seq(unhex("06082b06010505070303"))))
	b := f.bytes()
	r := random(18)
	for i := range b {
		for range 6 {
			x := bytes.Clone(b)
			x[i] ^= byte(1 + r.Intn(255))
			if c, e := cert.Parse(x); e == 0 && !bytes.Equal(seq(c.Tbs, signMethod, bits(c.Sig)), x) {
				t.Fatalf("what follows: %x is not written again as it was", x)
			}
		}
	}
}
