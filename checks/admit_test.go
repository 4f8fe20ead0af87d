package checks

import (
	"slices"
	"testing"

	"lintel/admit"
	"lintel/api"
)

func wantJudged(t *testing.T, what string, image, db, dbx []byte, d [32]byte, want api.Errno) {
	t.Helper()
	in := [][]byte{roomy(image), roomy(db), roomy(dbx)}
	got, e := admit.Judge(in[0], in[1], in[2])
	if got != d || e != want {
		t.Errorf("P24.1: Judge, %s: %x, %d; want %x, %d", what, got[:4], e, d[:4], want)
	}
	untouched(t, "R3: Judge", in[0], image)
	untouched(t, "R3: Judge", in[1], db)
	untouched(t, "R3: Judge", in[2], dbx)
}

func TestAdmitByDigest(t *testing.T) {
	x, d := image(7, nil), imageDigest(7)
	wantJudged(t, "by nothing", x, nil, nil, d, api.ErrDenied)
	wantJudged(t, "its digest", x, digestList(d), nil, d, 0)
	wantJudged(t, "another digest", x, hashList(1, 7), nil, d, api.ErrDenied)
	wantJudged(t, "one of several", x, slices.Concat(hashList(1, 7), certList(1, owner.cert), digestList(d)), nil, d, 0)
	wantJudged(t, "its digest, denied", x, digestList(d), digestList(d), d, api.ErrDenied)
	wantJudged(t, "denied alone", x, nil, digestList(d), d, api.ErrDenied)
	wantJudged(t, "another one denied", x, digestList(d), hashList(1, 7), d, 0)
	wantJudged(t, "a digest as a sum", x, sumList(1, d), nil, d, api.ErrDenied)
	wantJudged(t, "a digest as a certificate", x, certList(1, d[:]), nil, d, api.ErrDenied)
	wantJudged(t, "lists that are none", x, append(digestList(d), 0), nil, d, api.ErrDenied)
	wantJudged(t, "a dbx that is none", x, digestList(d), append(digestList(d), 0), d, 0)
	wantJudged(t, "signed by whomever", image(7, nil, stranger, owner), digestList(d), nil, d, 0)
	wantJudged(t, "a blob that is none", func() []byte {
		f := plainImage()
		f.length, f.fill, f.sigs = 416, 7, [][]byte{{1, 2, 3}}
		return f.bytes()
	}(), digestList(d), nil, d, 0)
}

func TestAdmitErrors(t *testing.T) {
	nine := plainImage(slices.Repeat([][]byte{{7, 7}}, 9)...).bytes()
	for _, c := range []struct {
		image []byte
		want  api.Errno
	}{{nil, api.ErrForm}, {[]byte("MZ"), api.ErrForm}, {nine, api.ErrBig}, {make([]byte, 1<<24+1), api.ErrBig}} {
		wantJudged(t, "no image", c.image, hashList(1, 0), nil, [32]byte{}, c.want)
	}
}

func TestAdmitByCertificate(t *testing.T) {
	d := imageDigest(8)
	chained := image(8, [][]byte{keeper.cert}, deputy)
	byOwner, byDeputy, byKeeper := certList(1, owner.cert), certList(1, deputy.cert), certList(1, keeper.cert)
	for what, c := range map[string]struct {
		image, db, dbx []byte
		want           api.Errno
	}{
		"the signer":                        {image(8, nil, owner), byOwner, nil, 0},
		"another one":                       {image(8, nil, owner), byKeeper, nil, api.ErrDenied},
		"a row":                             {chained, byKeeper, nil, 0},
		"a row's leaf":                      {chained, byDeputy, nil, 0},
		"a row that is cut":                 {image(8, nil, deputy), byKeeper, nil, api.ErrDenied},
		"the second blob":                   {image(8, nil, stranger, owner), byOwner, nil, 0},
		"the digest of the signed part":     {chained, sumList(1, partOf(keeper.cert)), nil, 0},
		"the digest of the leaf's part":     {chained, sumList(1, partOf(deputy.cert)), nil, 0},
		"the digest of all of it":           {chained, sumList(1, sum(keeper.cert)), nil, api.ErrDenied},
		"dbx: the signer":                   {image(8, nil, owner), byOwner, byOwner, api.ErrDenied},
		"dbx: one in the row":               {chained, byKeeper, byDeputy, api.ErrDenied},
		"dbx: behind the row":               {chained, byDeputy, byKeeper, api.ErrDenied},
		"dbx: by the digest of its part":    {chained, byKeeper, sumList(1, partOf(deputy.cert)), api.ErrDenied},
		"dbx: by the digest of all of it":   {chained, byKeeper, sumList(1, sum(deputy.cert)), 0},
		"dbx: another signer":               {image(8, nil, stranger, owner), byOwner, certList(1, stranger.cert), api.ErrDenied},
		"dbx: denied though db has it":      {image(8, nil, owner), slices.Concat(digestList(d), byOwner), byOwner, api.ErrDenied},
		"dbx: who is there, but no signer":  {image(8, [][]byte{stranger.cert}, owner), byOwner, certList(1, stranger.cert), 0},
		"dbx: who is not there":             {image(8, nil, owner), byOwner, byKeeper, 0},
		"db: who is there, but no signer":   {image(8, [][]byte{stranger.cert}, owner), certList(1, stranger.cert), nil, api.ErrDenied},
		"dbx: of the digest, db: a signer":  {image(8, nil, owner), byOwner, digestList(d), api.ErrDenied},
		"db: certificates as digests":       {image(8, nil, owner), listBytes(listGuids[api.KindHash], 1, func() []byte { s := sum(owner.cert); return s[:] }()), nil, api.ErrDenied},
		"an image that was turned":          {altered(image(8, nil, owner), 402, 1, 9), byOwner, nil, api.ErrDenied},
		"dbx: a signer of another image":    {altered(image(8, nil, owner), 402, 1, 9), nil, byOwner, api.ErrDenied},
		"a checksum that was turned":        {altered(image(8, nil, owner), 152, 4, 9), byOwner, nil, 0},
		"eight blobs, the last one decides": {image(8, nil, stranger, stranger, stranger, stranger, stranger, stranger, stranger, owner), byOwner, nil, 0},
	} {
		want := d
		if what == "an image that was turned" || what == "dbx: a signer of another image" {
			f := plainImage()
			f.length, f.fill = 416, 8
			b := altered(f.bytes(), 402, 1, 9)
			want = sum(slices.Concat(b[:152], b[156:216], b[224:]))
		}
		wantJudged(t, what, c.image, c.db, c.dbx, want, c.want)
	}
}

// A turned image is no more of its signer's: so a dbx with that signer does not deny what db has by its digest.
func TestAdmitTurned(t *testing.T) {
	b := altered(image(8, nil, owner), 402, 1, 9)
	f := plainImage()
	f.length, f.fill = 416, 8
	bare := altered(f.bytes(), 402, 1, 9)
	d := sum(slices.Concat(bare[:152], bare[156:216], bare[224:]))
	wantJudged(t, "a dbx of one who signed another image", b, digestList(d), certList(1, owner.cert), d, 0)
}

func TestAdmitSigners(t *testing.T) {
	f := plainImage()
	f.length, f.fill = 416, 9
	d := f.digest()
	serverOnly := newPerson("server", pairA, nil, extension(37, false, seq(unhex("06082b06010505070301"))))
	coder := newPerson("coder", pairA, nil, extension(37, false, seq(unhex("06082b06010505070303"))))
	noUse := newPerson("nouse", pairA, nil, extension(15, true, unhex("03020640")))
	content := codeContent(d)
	own := sum(content[2:])
	with := func(kind []byte, content []byte, p *person, signer []byte) []byte {
		parts := [][]byte{kind}
		if content != nil {
			parts = append(parts, tlv(0xa0, content))
		}
		return plainSigned(slices.Concat(parts...), [][]byte{p.cert}, signer).bytes()
	}
	for what, c := range map[string]struct {
		blob []byte
		who  *person
		ok   bool
	}{
		"as it should be":                 {with(oidCode, content, owner, owner.code(own)), owner, true},
		"without attributes":              {with(oidCode, content, owner, owner.signs(oidCode, own, false)), owner, true},
		"wrapped":                         {seq(oidSigned, tlv(0xa0, with(oidCode, content, owner, owner.code(own)))), owner, true},
		"one who may sign code":           {with(oidCode, content, coder, coder.code(own)), coder, true},
		"one who may not sign code":       {with(oidCode, content, serverOnly, serverOnly.code(own)), serverOnly, false},
		"one whose key is for other uses": {with(oidCode, content, noUse, noUse.code(own)), noUse, true},
		"another kind":                    {with(oidPlain, content, owner, owner.signs(oidPlain, own, true)), owner, false},
		"another kind, attributes":        {with(oidPlain, content, owner, owner.code(own)), owner, false},
		"another kind, no attributes":     {with(oidPlain, content, owner, owner.signs(oidCode, own, false)), owner, false},
		"attributes of another kind":      {with(oidCode, content, owner, owner.signs(oidPlain, own, true)), owner, false},
		"no content":                      {with(oidCode, nil, owner, owner.code(own)), owner, false},
		"the content of another image":    {with(oidCode, codeContent([32]byte{1}), owner, owner.code(sum(codeContent([32]byte{1})[2:]))), owner, false},
		"a content of bytes":              {with(oidCode, tlv(4, content), owner, owner.code(sum(content))), owner, false},
		"the digest of the whole content": {with(oidCode, content, owner, owner.code(sum(content))), owner, false},
		"the digest of the image":         {with(oidCode, content, owner, owner.code(d)), owner, false},
		"without its certificate":         {with(oidCode, content, stranger, owner.code(own)), owner, false},
		"something behind":                {append(with(oidCode, content, owner, owner.code(own)), 0), owner, false},
		"nothing that is signed data":     {seq(), owner, false},
	} {
		f.sigs = [][]byte{c.blob}
		admitted, denied := api.ErrDenied, api.OK
		if c.ok {
			admitted, denied = api.OK, api.ErrDenied
		}
		wantJudged(t, what, f.bytes(), certList(1, c.who.cert), nil, d, admitted)
		wantJudged(t, what+", in dbx", f.bytes(), digestList(d), certList(1, c.who.cert), d, denied)
	}
	// Two signers of one blob: each of them counts.
	f.sigs = [][]byte{codeBlob(d, [][]byte{owner.cert, keeper.cert}, owner.code, keeper.code)}
	for _, p := range []*person{owner, keeper} {
		wantJudged(t, "one of two signers", f.bytes(), certList(1, p.cert), nil, d, 0)
		wantJudged(t, "one of two signers in dbx", f.bytes(), certList(1, owner.cert, owner.cert), certList(1, p.cert), d, api.ErrDenied)
	}
}

// More in dbx admits nothing more; more in db nothing less; an empty db nothing.
func TestAdmitFollows(t *testing.T) {
	r := random(27)
	pool := [][]byte{owner.cert, keeper.cert, deputy.cert, stranger.cert}
	var images [][]byte
	var digests [][32]byte
	for i := range 6 {
		var signers []*person
		for range r.Intn(3) {
			signers = append(signers, []*person{owner, keeper, deputy, stranger}[r.Intn(4)])
		}
		var certs [][]byte
		if r.Intn(2) == 0 {
			certs = [][]byte{keeper.cert}
		}
		images = append(images, image(byte(i), certs, signers...))
		digests = append(digests, imageDigest(byte(i)))
	}
	some := func() []byte {
		var b []byte
		for range r.Intn(3) {
			i := r.Intn(4)
			b = slices.Concat(b, [][]byte{certList(1, pool[i]), sumList(1, partOf(pool[i])), digestList(digests[r.Intn(6)])}[r.Intn(3)])
		}
		return b
	}
	admitted := 0
	for range 300 {
		i := r.Intn(6)
		db, dbx, more := some(), some(), some()
		_, e := admit.Judge(images[i], db, dbx)
		_, wider := admit.Judge(images[i], slices.Concat(db, more), dbx)
		_, narrower := admit.Judge(images[i], db, slices.Concat(dbx, more))
		if e == 0 {
			admitted++
		}
		if e == 0 && wider != 0 || e != 0 && narrower == 0 {
			t.Fatalf("P24.2: %d, with more in db %d, with more in dbx %d", e, wider, narrower)
		}
		if _, e := admit.Judge(images[i], nil, dbx); e != api.ErrDenied {
			t.Fatalf("P24.2: an empty db admits: %d", e)
		}
	}
	if admitted < 20 {
		t.Errorf("only %d are admitted", admitted)
	}
}
