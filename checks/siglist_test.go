package checks

import (
	"bytes"
	"encoding/binary"
	"fmt"
	"math/rand"
	"reflect"
	"slices"
	"testing"

	"lintel/api"
	"lintel/siglist"
)

var listGuids = map[uint8]string{
	api.KindHash: "2616c4c14c509240aca941f936934328", api.KindCert: "a159c0a5e494a74a87b5ab155c2bf072", api.KindSum: "92a4d23bc0967940b420fcf98ef103ed",
}

// listBytes is a list's bytes, written apart from the program.
func listBytes(guid string, owner byte, data ...[]byte) []byte {
	b := unhex(guid)
	item := 16 + len(data[0])
	b = binary.LittleEndian.AppendUint32(b, uint32(28+item*len(data)))
	b = append(b, 0, 0, 0, 0)
	b = binary.LittleEndian.AppendUint32(b, uint32(item))
	for _, d := range data {
		b = append(append(b, bytes.Repeat([]byte{owner}, 16)...), d...)
	}
	return b
}

func hashList(owner byte, fills ...byte) []byte {
	var l [][]byte
	for _, x := range fills {
		l = append(l, bytes.Repeat([]byte{x}, 32))
	}
	return listBytes(listGuids[api.KindHash], owner, l...)
}

func certList(owner byte, certs ...[]byte) []byte {
	return listBytes(listGuids[api.KindCert], owner, certs...)
}

func sumList(owner byte, sums ...[32]byte) []byte {
	var l [][]byte
	for _, s := range sums {
		l = append(l, append(s[:], make([]byte, 16)...))
	}
	return listBytes(listGuids[api.KindSum], owner, l...)
}

func TestSiglistExample(t *testing.T) {
	owner := api.Guid(bytes.Repeat([]byte{1}, 16))
	l := []api.List{{Kind: api.KindHash, Items: []api.Item{{Owner: owner, Data: bytes.Repeat([]byte{2}, 32)}}}}
	b, e := siglist.Write(l)
	want := unhex("2616c4c14c509240aca941f936934328 4c000000 00000000 30000000" + "01010101010101010101010101010101" + "0202020202020202020202020202020202020202020202020202020202020202")
	equal(t, "P18.2: Write", b, want)
	wantErr(t, "P18.2: Write", e, 0)
	in := roomy(want)
	got, e := siglist.Read(in)
	if e != 0 || !reflect.DeepEqual(got, l) {
		t.Errorf("P18.1: Read: %v, %d", got, e)
	}
	untouched(t, "R3: Read", in, want)
	_, e = siglist.Read(want[:75])
	wantErr(t, "P18.1: Read of 75 bytes", e, api.ErrForm)
	merged, e := siglist.Merge(want, want)
	equal(t, "P18.3: Merge", merged, want)
	wantErr(t, "P18.3: Merge", e, 0)
	if !siglist.Has(l, api.KindHash, l[0].Items[0].Data) || siglist.Has(l, api.KindCert, l[0].Items[0].Data) {
		t.Errorf("P18.4: Has")
	}
}

func TestSiglistRead(t *testing.T) {
	sum := append(bytes.Repeat([]byte{3}, 32), unhex("e807010203040500 0000000000000000")...)
	good := slices.Concat(hashList(1, 2, 3), certList(4, []byte{9}), listBytes(listGuids[api.KindSum], 5, sum), certList(6, make([]byte, 8192)))
	l, e := siglist.Read(good)
	if e != 0 || len(l) != 4 || len(l[0].Items) != 2 || l[2].Kind != api.KindSum || !bytes.Equal(l[2].Items[0].Data, sum) || l[3].Items[0].Owner[15] != 6 || len(l[3].Items[0].Data) != 8192 {
		t.Errorf("P18.1: Read: %v, %d", l, e)
	}
	if b, e := siglist.Write(l); !bytes.Equal(b, good) || e != 0 {
		t.Errorf("P18.5: what is read is written as it was: %d", e)
	}
	if l, e := siglist.Read(nil); len(l) != 0 || e != 0 {
		t.Errorf("P18.1: Read of nothing: %v, %d", l, e)
	}
	h := hashList(1, 2)
	for what, b := range map[string][]byte{
		"another kind":        altered(h, 0, 1, 0x27),
		"no room for items":   altered(h, 16, 4, 75),
		"one byte more":       altered(h, 16, 4, 77),
		"no items":            altered(h, 16, 4, 28),
		"a head alone":        altered(h, 16, 4, 28)[:28],
		"less than a head":    altered(h, 16, 4, 27),
		"a length of 0":       altered(h, 16, 4, 0),
		"a length of 2^32-1":  altered(h, 16, 4, 1<<32-1),
		"no noughts":          altered(h, 20, 4, 1),
		"high noughts":        altered(h, 23, 1, 1),
		"an item of 0":        altered(h, 24, 4, 0),
		"an item of 16":       altered(h, 24, 4, 16),
		"an item of 47":       altered(h, 24, 4, 47),
		"an item of 49":       altered(h, 24, 4, 49),
		"an item of 24":       altered(h, 24, 4, 24),
		"an item of 2^32-1":   altered(h, 24, 4, 1<<32-1),
		"something behind":    append(bytes.Clone(h), 0),
		"a hash of 31":        listBytes(listGuids[api.KindHash], 1, make([]byte, 31)),
		"a hash of 33":        listBytes(listGuids[api.KindHash], 1, make([]byte, 33)),
		"a cert of 0":         listBytes(listGuids[api.KindCert], 1, nil),
		"a cert of 8193":      listBytes(listGuids[api.KindCert], 1, make([]byte, 8193)),
		"a sum of 47":         listBytes(listGuids[api.KindSum], 1, make([]byte, 47)),
		"a sum of 32":         listBytes(listGuids[api.KindSum], 1, make([]byte, 32)),
		"a sum of 5":          listBytes(listGuids[api.KindSum], 1, make([]byte, 5)),
		"a sum of 49":         listBytes(listGuids[api.KindSum], 1, make([]byte, 49)),
		"a sum of no time":    listBytes(listGuids[api.KindSum], 1, altered(make([]byte, 48), 47, 1, 1)),
		"a sum of a bad time": listBytes(listGuids[api.KindSum], 1, altered(make([]byte, 48), 32, 2, 2024)),
		"a second one bad":    append(bytes.Clone(h), altered(h, 20, 4, 1)...),
	} {
		if l, e := siglist.Read(b); len(l) != 0 || e != api.ErrForm {
			t.Errorf("P18.1: Read, %s: %v, %d", what, l, e)
		}
	}
	for n := 1; n < len(h); n++ {
		_, e := siglist.Read(h[:n])
		wantErr(t, "P18.1: Read of a list that is cut", e, api.ErrForm)
	}
	limit(t)
}

// limit asks for lists of 65536 bytes, and of one more.
func limit(t *testing.T) {
	t.Helper()
	eight := certList(1, slices.Repeat([][]byte{make([]byte, 8000)}, 8)...)
	rest := func(n int) []byte { return slices.Concat(eight, certList(1, make([]byte, n-len(eight)-44))) }
	if l, e := siglist.Read(rest(65536)); len(l) != 2 || e != 0 {
		t.Errorf("P18.1: Read of 65536 bytes: %d", e)
	}
	l, e := siglist.Read(rest(65537))
	if len(l) != 0 || e != api.ErrBig {
		t.Errorf("P18.1: Read of 65537 bytes: %d", e)
	}
	_, e = siglist.Read(make([]byte, 65537))
	wantErr(t, "P18.1: Read of 65537 bytes that are none", e, api.ErrBig)
	l, _ = siglist.Read(rest(65536))
	b, e := siglist.Write(l)
	if len(b) != 65536 || e != 0 {
		t.Errorf("P18.2: Write of 65536 bytes: %d", e)
	}
	l[1].Items[0].Data = append(l[1].Items[0].Data, 0)
	b, e = siglist.Write(l)
	if len(b) != 0 || e != api.ErrBig {
		t.Errorf("P18.2: Write of 65537 bytes: %d", e)
	}
	l[0].Kind = 9
	_, e = siglist.Write(l)
	wantErr(t, "P18.2: Write of too many bytes of no kind", e, api.ErrArg)
	more := func(n int) []byte { return certList(2, make([]byte, n-len(eight)-44)) }
	b, e = siglist.Merge(eight, more(65536))
	if len(b) != 65536 || e != 0 {
		t.Errorf("P18.3: Merge to 65536 bytes: %d", e)
	}
	b, e = siglist.Merge(eight, more(65537))
	if len(b) != 0 || e != api.ErrBig {
		t.Errorf("P18.3: Merge to 65537 bytes: %d", e)
	}
}

func TestSiglistWrite(t *testing.T) {
	item := func(n int) api.Item { return api.Item{Data: make([]byte, n)} }
	for what, l := range map[string]api.List{
		"no kind": {Kind: 0, Items: []api.Item{item(32)}}, "the kind 4": {Kind: 4, Items: []api.Item{item(32)}}, "no items": {Kind: api.KindHash}, "a hash of 31": {Kind: api.KindHash, Items: []api.Item{item(31)}},
		"a cert of 0": {Kind: api.KindCert, Items: []api.Item{item(0)}}, "a cert of 8193": {Kind: api.KindCert, Items: []api.Item{item(8193)}}, "two lengths": {Kind: api.KindCert, Items: []api.Item{item(3), item(4)}},
		"a sum of 47": {Kind: api.KindSum, Items: []api.Item{item(47)}}, "a sum of 0": {Kind: api.KindSum, Items: []api.Item{item(0)}}, "a second hash of 33": {Kind: api.KindHash, Items: []api.Item{item(32), item(33)}},
		"a sum of a bad time": {Kind: api.KindSum, Items: []api.Item{{Data: altered(make([]byte, 48), 34, 1, 1)}}},
	} {
		for _, lists := range [][]api.List{{l}, {{Kind: api.KindHash, Items: []api.Item{item(32)}}, l}} {
			b, e := siglist.Write(lists)
			if len(b) != 0 || e != api.ErrArg {
				t.Errorf("P18.2: Write, %s: %x, %d", what, b, e)
			}
		}
	}
	if b, e := siglist.Write(nil); len(b) != 0 || e != 0 {
		t.Errorf("P18.2: Write of nothing: %x, %d", b, e)
	}
}

func TestSiglistMerge(t *testing.T) {
	for what, c := range map[string]struct{ old, more, want []byte }{
		"nothing and nothing":      {nil, nil, nil},
		"something and nothing":    {hashList(1, 2), nil, hashList(1, 2)},
		"nothing and something":    {nil, hashList(1, 2), hashList(1, 2)},
		"some that are new":        {hashList(1, 2, 3), hashList(1, 3, 4, 2, 5), slices.Concat(hashList(1, 2, 3), hashList(1, 4, 5))},
		"another owner":            {hashList(1, 2), hashList(2, 2), slices.Concat(hashList(1, 2), hashList(2, 2))},
		"another kind":             {certList(1, bytes.Repeat([]byte{2}, 32)), hashList(1, 2), slices.Concat(certList(1, bytes.Repeat([]byte{2}, 32)), hashList(1, 2))},
		"twice in more":            {hashList(1, 9), slices.Concat(hashList(1, 2, 2), hashList(1, 3, 2)), slices.Concat(hashList(1, 9), hashList(1, 2), hashList(1, 3))},
		"twice in old":             {hashList(1, 2, 2), hashList(1, 2), hashList(1, 2, 2)},
		"a list of known ones":     {hashList(1, 2), slices.Concat(hashList(1, 2), certList(1, []byte{1})), slices.Concat(hashList(1, 2), certList(1, []byte{1}))},
		"lists that are not mixed": {nil, slices.Concat(hashList(1, 2), hashList(1, 3)), slices.Concat(hashList(1, 2), hashList(1, 3))},
	} {
		old, more := roomy(c.old), roomy(c.more)
		got, e := siglist.Merge(old, more)
		equal(t, "P18.3: Merge, "+what, got, c.want)
		wantErr(t, "P18.3: Merge, "+what, e, 0)
		untouched(t, "R3: Merge", old, c.old)
		untouched(t, "R3: Merge", more, c.more)
		apart(t, "R3: Merge", got, old, more)
	}
	great := make([]byte, 65537)
	for _, c := range []struct {
		old, more []byte
		want      api.Errno
	}{{[]byte{1}, great, api.ErrForm}, {great, []byte{1}, api.ErrBig}, {nil, great, api.ErrBig}, {nil, []byte{1}, api.ErrForm}, {hashList(1, 2), []byte{1}, api.ErrForm}} {
		got, e := siglist.Merge(c.old, c.more)
		if len(got) != 0 || e != c.want {
			t.Errorf("P18.3: Merge: %d bytes, %d; want %d", len(got), e, c.want)
		}
	}
}

func TestSiglistHas(t *testing.T) {
	long := make([]byte, 48)
	long[47] = 1
	l := []api.List{
		{Kind: api.KindHash, Items: []api.Item{{Data: []byte{1}}, {Data: []byte{2, 3}}}},
		{Kind: api.KindSum, Items: []api.Item{{Data: long}, {Data: []byte{4, 5}}}},
		{Kind: 9, Items: []api.Item{{Data: []byte{6}}, {}}},
	}
	for _, c := range []struct {
		kind uint8
		data []byte
		want bool
	}{
		{api.KindHash, []byte{1}, true}, {api.KindHash, []byte{2, 3}, true}, {api.KindHash, []byte{2}, false}, {api.KindHash, []byte{1, 0}, false}, {api.KindCert, []byte{1}, false}, {api.KindHash, nil, false},
		{api.KindSum, long[:32], true}, {api.KindSum, long, false}, {api.KindSum, long[:31], false}, {api.KindSum, []byte{4, 5}, true}, {api.KindSum, []byte{4}, false}, {api.KindHash, long[:32], false},
		{9, []byte{6}, true}, {9, nil, true}, {8, nil, false},
	} {
		if siglist.Has(l, c.kind, c.data) != c.want {
			t.Errorf("P18.4: Has of %d, %x: %v", c.kind, c.data, !c.want)
		}
	}
	if siglist.Has(nil, api.KindHash, nil) {
		t.Errorf("P18.4: Has of no list")
	}
}

func someLists(r *rand.Rand) []api.List {
	var l []api.List
	for range r.Intn(4) {
		x := api.List{Kind: uint8(1 + r.Intn(3))}
		n := []int{32, 1 + r.Intn(2), 48}[x.Kind-1]
		for range 1 + r.Intn(4) {
			d := make([]byte, n)
			d[0] = byte(r.Intn(3))
			x.Items = append(x.Items, api.Item{Owner: api.Guid{byte(r.Intn(2))}, Data: d})
		}
		l = append(l, x)
	}
	return l
}

func items(l []api.List) map[string]int {
	m := map[string]int{}
	for _, x := range l {
		for _, i := range x.Items {
			m[fmt.Sprint(x.Kind, i)]++
		}
	}
	return m
}

func TestSiglistFollows(t *testing.T) {
	r := random(23)
	for range 1500 {
		one, two := someLists(r), someLists(r)
		a, _ := siglist.Write(one)
		b, e := siglist.Write(two)
		back, e2 := siglist.Read(b)
		if e != 0 || e2 != 0 || fmt.Sprint(back) != fmt.Sprint(two) {
			t.Fatalf("P18.5: what is written is read: %v, %v", two, back)
		}
		merged, _ := siglist.Merge(a, b)
		again, _ := siglist.Merge(merged, b)
		equal(t, "P18.5: merging in what is there", again, merged)
		l, e := siglist.Read(merged)
		if e != 0 || !bytes.HasPrefix(merged, a) {
			t.Fatalf("P18.3: Merge is no lists: %d", e)
		}
		got, first, second := items(l), items(one), items(two)
		for k, n := range got {
			if first[k] == 0 && second[k] == 0 || n > max(1, first[k]) {
				t.Fatalf("P18.5: %s is %d times in the merged one", k, n)
			}
		}
		for _, m := range []map[string]int{first, second} {
			for k := range m {
				if got[k] == 0 {
					t.Fatalf("P18.5: %s is wanting", k)
				}
			}
		}
	}
}
