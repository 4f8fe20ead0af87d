package checks

import (
	"bytes"
	"fmt"
	"math/rand"
	"reflect"
	"slices"
	"testing"

	"lintel/api"
	"lintel/chain"
)

var chainSigs = map[string][]byte{}

// linked is a certificate of a subject's name and key, signed by an issuer's, with what a chain looks at.
func linked(subject string, key pair, issuer string, by pair) api.Cert {
	c := api.Cert{Issuer: named(issuer), Subject: named(subject), Tbs: []byte(subject + " by " + issuer), Key: key.key, Ca: true, Path: -1, Usage: -1, Raw: []byte("raw " + subject + issuer), Serial: []byte{1}}
	id := fmt.Sprintf("%s %x", c.Tbs, by.key.N[:8])
	if chainSigs[id] == nil {
		chainSigs[id] = by.sign(c.Tbs)
	}
	c.Sig = bytes.Clone(chainSigs[id])
	return c
}

func TestChainSigned(t *testing.T) {
	child, parent := linked("a", pairA, "b", pairB), linked("b", pairB, "c", pairC)
	if !chain.Signed(child, parent) || chain.Signed(parent, child) {
		t.Errorf("P13.1: Signed of a by b: %v; of b by a: %v", chain.Signed(child, parent), chain.Signed(parent, child))
	}
	for what, c := range map[string]struct {
		change func(child, parent *api.Cert)
		want   bool
	}{
		"another issuer":     {func(child, _ *api.Cert) { child.Issuer = named("x") }, false},
		"another subject":    {func(_, parent *api.Cert) { parent.Subject = named("B") }, false},
		"no authority":       {func(_, parent *api.Cert) { parent.Ca = false }, false},
		"usage 0":            {func(_, parent *api.Cert) { parent.Usage = 0 }, false},
		"usage of others":    {func(_, parent *api.Cert) { parent.Usage = 511 &^ 32 }, false},
		"usage":              {func(_, parent *api.Cert) { parent.Usage = 32 }, true},
		"usage and more":     {func(_, parent *api.Cert) { parent.Usage = 511 }, true},
		"usage below 0":      {func(_, parent *api.Cert) { parent.Usage = -512 }, true},
		"other bytes":        {func(child, _ *api.Cert) { child.Tbs = append(child.Tbs, 0) }, false},
		"another signature":  {func(child, _ *api.Cert) { child.Sig[9] ^= 1 }, false},
		"no signature":       {func(child, _ *api.Cert) { child.Sig = nil }, false},
		"another key":        {func(_, parent *api.Cert) { parent.Key = pairA.key }, false},
		"no key":             {func(_, parent *api.Cert) { parent.Key = api.Key{} }, false},
		"a path of no say":   {func(_, parent *api.Cert) { parent.Path = 0 }, true},
		"the child's own":    {func(child, _ *api.Cert) { child.Ca, child.Usage, child.Path = false, 0, 0 }, true},
		"names of no length": {func(child, parent *api.Cert) { child.Issuer, parent.Subject = nil, []byte{} }, true},
	} {
		child, parent := linked("a", pairA, "b", pairB), linked("b", pairB, "c", pairC)
		c.change(&child, &parent)
		if chain.Signed(child, parent) != c.want {
			t.Errorf("P13.1: %s: %v", what, !c.want)
		}
	}
	if chain.Signed(api.Cert{}, api.Cert{}) {
		t.Errorf("P13.1: nothing is signed by nothing")
	}
}

// trusts says yes of the certificates with one of these subjects.
func trusts(subjects ...string) func(c api.Cert) bool {
	return func(c api.Cert) bool {
		return slices.ContainsFunc(subjects, func(s string) bool { return bytes.Equal(c.Subject, named(s)) })
	}
}

// wantRow fails the test unless certificates have these subjects, in order.
func wantRow(t *testing.T, what string, got []api.Cert, subjects ...string) {
	t.Helper()
	ok := len(got) == len(subjects)
	for i := range got {
		ok = ok && bytes.Equal(got[i].Subject, named(subjects[i]))
	}
	if !ok {
		names := []string{}
		for _, c := range got {
			names = append(names, string(c.Tbs))
		}
		t.Errorf("%s: %q, want %q", what, names, subjects)
	}
}

func TestChainExamples(t *testing.T) {
	a, b, c, d := linked("a", pairA, "b", pairB), linked("b", pairB, "c", pairC), linked("c", pairC, "c", pairC), linked("d", pairA, "c", pairC)
	find := func(what string, pool []api.Cert, anchor func(api.Cert) bool, want ...string) {
		t.Helper()
		got, ok := chain.Find(a, pool, anchor)
		if ok != (len(want) > 0) {
			t.Errorf("%s: %v", what, ok)
		}
		wantRow(t, what, got, want...)
	}
	all := []api.Cert{b, c, d}
	find("P13.2: c is trusted", all, trusts("c"), "a", "b", "c")
	find("P13.2: a is trusted", all, trusts("a"), "a")
	find("P13.2: a and c are trusted", all, trusts("a", "c"), "a")
	find("P13.2: d is trusted", all, trusts("d"))
	find("P13.2: b and c are trusted", all, trusts("b", "c"), "a", "b")
	find("P13.2: nobody is asked", all, nil)
	find("P13.2: nobody is trusted", all, trusts())
	find("P13.2: no pool", nil, trusts("c"))
	find("P13.2: no pool, a trusted", nil, trusts("a"), "a")
	b0, c0 := b, c
	b0.Path, c0.Path = 0, 0
	find("P13.2: b of path 0 is trusted", []api.Cert{b0, c, d}, trusts("b"), "a", "b")
	find("P13.2: c of path 0 is trusted", []api.Cert{b, c0, d}, trusts("c"))
	c1 := c
	c1.Path = 1
	find("P13.2: c of path 1 is trusted", []api.Cert{b, c1, d}, trusts("c"), "a", "b", "c")
	find("P13.2: b of path 0, c is trusted", []api.Cert{b0, c, d}, trusts("c"), "a", "b", "c")
	wantRow(t, "P13.3: Reach", chain.Reach(a, []api.Cert{c, b, d}), "a", "b", "c")
	wantRow(t, "P13.3: Reach of no pool", chain.Reach(a, nil), "a")
	wantRow(t, "P13.3: Reach of nobody who signed", chain.Reach(a, []api.Cert{c, d}), "a")
	wantRow(t, "P13.3: Reach of c", chain.Reach(c, []api.Cert{c, b, c, d}), "c", "c", "c")
}

func TestChainTies(t *testing.T) {
	a := linked("a", pairA, "b", pairB)
	b := linked("b", pairB, "c", pairC)
	c := linked("c", pairC, "c", pairC)
	mark := func(x api.Cert, m byte) api.Cert { x.Serial = []byte{m}; return x }
	serials := func(row []api.Cert) (s []byte) {
		for _, x := range row[1:] {
			s = append(s, x.Serial...)
		}
		return s
	}
	bx := linked("b", pairB, "x", pairC) // signed by nobody who is here
	row, ok := chain.Find(a, []api.Cert{mark(c, 1), bx, mark(b, 2), mark(b, 3), mark(c, 4)}, trusts("c"))
	if !ok || !bytes.Equal(serials(row), []byte{2, 1}) {
		t.Errorf("P13.2: of several rows: %x", serials(row))
	}
	// The first b leads to the later anchor alone, and is taken all the same; what is trusted farther on has no say.
	b2, other := linked("b", pairB, "d", pairA), linked("d", pairA, "d", pairA)
	row, ok = chain.Find(a, []api.Cert{mark(c, 1), mark(b2, 2), mark(b, 3), mark(other, 4)}, trusts("c", "d"))
	if !ok || !bytes.Equal(serials(row), []byte{2, 4}) {
		t.Errorf("P13.2: of several rows: %x", serials(row))
	}
	twice := chain.Reach(a, []api.Cert{mark(c, 1), mark(b, 2), mark(b, 3), mark(c, 4)})
	if !bytes.Equal(serials(twice), []byte{2, 3, 1, 4}) {
		t.Errorf("P13.3: of each place: %x", serials(twice))
	}
}

func TestChainLength(t *testing.T) {
	var row []api.Cert
	for i := range 10 {
		row = append(row, linked(fmt.Sprint(i), pairA, fmt.Sprint(i+1), pairA))
	}
	pool := slices.Clone(row[1:])
	slices.Reverse(pool)
	got, ok := chain.Find(row[0], pool, trusts("7"))
	wantRow(t, "P13.2: eight certificates", got, "0", "1", "2", "3", "4", "5", "6", "7")
	if got, no := chain.Find(row[0], pool, trusts("8")); no || !ok || len(got) != 0 {
		t.Errorf("P13.2: nine certificates: %v", no)
	}
	wantRow(t, "P13.3: Reach up to eight", chain.Reach(row[0], pool), "0", "1", "2", "3", "4", "5", "6", "7")
	for i := range pool {
		pool[i].Path = 8 - i // row[9-i] stands at the place 9-i, and needs 8-i
	}
	wantRow(t, "P13.3: paths that just do", chain.Reach(row[0], pool), "0", "1", "2", "3", "4", "5", "6", "7")
	pool[4].Path--
	wantRow(t, "P13.3: a path too short", chain.Reach(row[0], pool), "0", "1", "2", "3", "4")
}

// model goes through all rows; it tells the best one that ends in somebody trusted, and everybody's least place.
type chainModel struct {
	certs   []api.Cert // the leaf first
	signed  map[[2]int]bool
	trusted []bool
	best    []int
	least   map[int]int
}

func (m *chainModel) walk(row []int) {
	last := row[len(row)-1]
	if at, ok := m.least[last]; last > 0 && (!ok || len(row)-1 < at) {
		m.least[last] = len(row) - 1
	}
	if m.trusted[last] && (m.best == nil || len(row) < len(m.best) || len(row) == len(m.best) && slices.Compare(row, m.best) < 0) {
		m.best = slices.Clone(row)
	}
	for i := 1; len(row) < 8 && i < len(m.certs); i++ {
		if m.signed[[2]int{last, i}] && (m.certs[i].Path < 0 || m.certs[i].Path >= len(row)-1) {
			m.walk(append(slices.Clone(row), i))
		}
	}
}

func someChain(r *rand.Rand) *chainModel {
	pairs := []pair{pairA, pairB, pairC}
	m := &chainModel{signed: map[[2]int]bool{}, least: map[int]int{}}
	for range 1 + r.Intn(9) {
		s, i := r.Intn(3), r.Intn(3)
		c := linked(fmt.Sprint(s), pairs[s], fmt.Sprint(i), pairs[i])
		c.Path, c.Ca, c.Usage = r.Intn(5)-1, r.Intn(12) > 0, []int{-1, 32, 33, -1, 32, 1}[r.Intn(6)]
		if r.Intn(10) == 0 {
			c.Sig[0] ^= 1
		}
		c.Serial = []byte{byte(len(m.certs))}
		m.certs = append(m.certs, c)
		m.trusted = append(m.trusted, r.Intn(4) == 0)
	}
	for i, a := range m.certs {
		for j, b := range m.certs {
			m.signed[[2]int{i, j}] = chain.Signed(a, b)
		}
	}
	m.walk([]int{0})
	return m
}

func TestChainIsTheModel(t *testing.T) {
	r := random(19)
	found := 0
	for range 400 {
		m := someChain(r)
		leaf, pool := m.certs[0], m.certs[1:]
		before := fmt.Sprint(m.certs)
		row, ok := chain.Find(leaf, pool, func(c api.Cert) bool { return m.trusted[c.Serial[0]] })
		var places []int
		for _, c := range row {
			places = append(places, int(c.Serial[0]))
		}
		if ok != (m.best != nil) || !slices.Equal(places, m.best) {
			t.Fatalf("P13.2: Find: %d, %v; want %d", places, ok, m.best)
		}
		want := []int{0}
		for at := 1; at < 8; at++ {
			for i := range m.certs {
				if m.least[i] == at {
					want = append(want, i)
				}
			}
		}
		places = nil
		for _, c := range chain.Reach(leaf, pool) {
			places = append(places, int(c.Serial[0]))
		}
		if !slices.Equal(places, want) {
			t.Fatalf("P13.3: Reach: %d, want %d", places, want)
		}
		if len(want) > 3 {
			found++
		}
		followsChain(t, m, places, ok)
		if fmt.Sprint(m.certs) != before {
			t.Fatalf("R3: what was handed in has changed")
		}
	}
	if found < 50 {
		t.Errorf("only %d long rows", found)
	}
}

// followsChain holds Find against Reach, and asks again without those who are not reached.
func followsChain(t *testing.T, m *chainModel, reached []int, ok bool) {
	t.Helper()
	trusted := false
	for _, i := range reached {
		trusted = trusted || m.trusted[i]
	}
	if trusted != ok {
		t.Fatalf("what follows: Find says %v, Reach %v", ok, trusted)
	}
	var fewer []api.Cert
	for i, c := range m.certs[1:] {
		if slices.Contains(reached, i+1) {
			fewer = append(fewer, c)
		}
	}
	if !reflect.DeepEqual(chain.Reach(m.certs[0], fewer), chain.Reach(m.certs[0], m.certs[1:])) {
		t.Fatalf("what follows: who is not reached has a say")
	}
}

func TestChainAnswersAreNewMemory(t *testing.T) {
	a, b := linked("a", pairA, "b", pairB), linked("b", pairB, "c", pairC)
	pool := append(make([]api.Cert, 0, 4), b)
	before := fmt.Sprint(a, b)
	anchor := func(c api.Cert) bool { spoil(c.Tbs); spoil(c.Key.N); return bytes.Equal(c.Subject, named("b")) }
	row, _ := chain.Find(a, pool, anchor)
	for _, l := range [][]api.Cert{row, chain.Reach(a, pool)} {
		for _, c := range l {
			for _, x := range [][]byte{c.Raw, c.Tbs, c.Issuer, c.Subject, c.Serial, c.Key.N, c.Sig} {
				spoil(x)
			}
		}
		_ = append(l, api.Cert{})
	}
	if fmt.Sprint(a, pool[0]) != before || pool[:2][1].Tbs != nil {
		t.Errorf("R3: an answer is memory of what was handed in")
	}
}
