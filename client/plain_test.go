package client_test

import (
	"bytes"
	"maps"
	"math"
	"slices"
	"testing"

	"scrivener/api"
	"scrivener/book"
	"scrivener/bundle"
	"scrivener/client"
	"scrivener/head"
	"scrivener/keys"
	"scrivener/proof"
	"scrivener/sum"
	"scrivener/tree"
)

// odd are numbers that are no height, no place, and nobody's.
var odd = []int{math.MinInt, -1, 12, 4711, math.MaxInt}

// The kinds of messages that a client hears.
const (
	kindHead  = 6
	kindProof = 9
	kindLink  = 10
)

// rings are the keys of four signers.
var rings = func() (list []*keys.Ring) {
	for i := range 4 {
		list = append(list, keys.New(api.ID{20, byte(i)}))
	}
	return list
}()

// publics are the public keys of the first signers.
func publics(signers int) (list []api.ID) {
	for _, r := range rings[:signers] {
		list = append(list, r.Public())
	}
	return list
}

// need: of how many signers how many must have signed a head, as layer 13 has it.
var need = map[int]int{1: 1, 4: 3}

// number is that of the client, in most tests.
const number = 5

// mine: the bytes of an entry of the client.
func mine(num int) []byte {
	b, _ := book.Entry(number, num, []byte{byte(num), 'm'})
	return b
}

// text: what such an entry says.
func text(num int) []byte { return []byte{byte(num), 'm'} }

// sizes: how many entries there are at each height, from 0 on.
var sizes = []int{0, 0, 2, 3, 3, 7, 11, 13, 18}

// entries is a list, of one of two books that have the first three entries alike; each third one is of the client.
func entries(which int) (list [][]byte) {
	for i := range sizes[len(sizes)-1] {
		if i%3 == 1 {
			order := [][]int{{1, 2, 3, 4, 5, 6}, {1, 3, 2, 5, 4, 6}}[which]
			list = append(list, mine(order[i/3]))
			continue
		}
		t := []byte{'o'}
		if i > 2 {
			t = append(t, byte(which))
		}
		b, _ := book.Entry(1, 1+i, t)
		list = append(list, b)
	}
	return list
}

// leaves: of the list of a height.
func leaves(which, height int) []api.ID {
	return tree.Entries(entries(which)[:sizes[height]]...)
}

// at: the head of a height.
func at(which, height int) book.Head {
	l := leaves(which, height)
	return book.Head{Height: height, Size: len(l), Root: tree.Root(l...)}
}

// by: the message of a head that somebody signed.
func by(who int, h book.Head) api.Msg {
	s, _ := head.Sign(rings[who], who, h)
	return s.Msg()
}

// placed: the message that proves an entry, by the head of a height, at its place.
func placed(which, height, place int) api.Msg {
	way, _ := proof.Inclusion(leaves(which, height), place)
	return api.Msg{Kind: kindProof, Height: height, Num: place, IDs: way, Data: entries(which)[place]}
}

// linked: the message that proves that one list begins with another.
func linked(which, first, second int) api.Msg {
	l, _ := proof.Consistency(leaves(which, second), sizes[first])
	return api.Msg{Kind: kindLink, Num: first, Height: second, IDs: l}
}

// plain is a client as plain as may be: the chapter's sentences, one by one.
type plain struct {
	me, signers, last int
	heads             *bundle.Bundle
	open              []*plainEntry
	taken             map[int]client.Taken
	links             [][2]int
}

type plainEntry struct {
	num    int
	bytes  []byte
	proofs []api.Msg
}

func (p *plain) submit(text []byte) (int, []byte, api.Errno) {
	if len(p.open) == 3 {
		return 0, nil, api.ErrQuota
	}
	b, e := book.Entry(p.me, p.last+1, text)
	if e != api.OK {
		return 0, nil, e
	}
	p.last++
	p.open = append(p.open, &plainEntry{num: p.last, bytes: b})
	return p.last, b, api.OK
}

func (p *plain) hear(from int, m api.Msg) (e api.Errno) {
	if m.Kind == kindProof {
		e = p.hearProof(m)
	} else if m.Kind == kindLink {
		e = p.hearLink(m)
	} else {
		e = p.heads.Add(from, m)
	}
	p.look()
	return e
}

func (p *plain) hearProof(m api.Msg) api.Errno {
	if _, e := book.Check(m.Data); e != api.OK {
		return e
	}
	for _, x := range p.open {
		if !bytes.Equal(x.bytes, m.Data) {
			continue
		}
		if len(m.IDs) > 64 {
			return api.ErrLong
		}
		var left []api.Msg
		for _, y := range x.proofs {
			if y.Height != m.Height || y.Num != m.Num {
				left = append(left, y)
			}
		}
		m.IDs = slices.Clone(m.IDs)
		x.proofs = append(left, m)
		if len(x.proofs) == 9 {
			x.proofs = x.proofs[1:]
		}
		return api.OK
	}
	return api.ErrMissing
}

func (p *plain) hearLink(m api.Msg) api.Errno {
	one, ok := p.heads.Accepted(m.Num)
	if !ok {
		return api.ErrMissing
	}
	two, ok := p.heads.Accepted(m.Height)
	if !ok {
		return api.ErrMissing
	}
	if e := proof.CheckConsistency(one.Size, two.Size, one.Root, two.Root, m.IDs); e != api.OK {
		return e
	}
	p.links = append(p.links, [2]int{m.Num, m.Height})
	return api.OK
}

// look: which entries are proved?
func (p *plain) look() {
	var left []*plainEntry
	for _, x := range p.open {
		proved := false
		for _, y := range x.proofs {
			h, ok := p.heads.Accepted(y.Height)
			if ok && !proved && proof.CheckInclusion(sum.Leaf(x.bytes), y.Num, h.Size, y.IDs, h.Root) == api.OK {
				p.taken[x.num] = client.Taken{Height: y.Height, At: y.Num}
				proved = true
			}
		}
		if !proved {
			left = append(left, x)
		}
	}
	p.open = left
}

func (p *plain) wants() (list []api.Msg) {
	best, _ := p.heads.Best()
	for height := range best.Height {
		h, ok := p.heads.Accepted(height)
		if ok && h.Size > 0 && !slices.Contains(p.links, [2]int{height, best.Height}) {
			list = append(list, api.Msg{Kind: kindLink, Who: p.me, Height: best.Height, Num: height})
		}
	}
	return list
}

// fresh: a client who has done nothing yet, and a plain one.
func fresh(t *testing.T, me, signers int) (*client.Client, *plain) {
	t.Helper()
	c, e := client.New(me, publics(signers)...)
	if e != api.OK || c == nil {
		t.Fatalf("New(%d) of %d: %v", me, signers, e)
	}
	b, _ := bundle.New(publics(signers)...)
	return c, &plain{me: me, signers: signers, heads: b, taken: map[int]client.Taken{}}
}

// submitted: is a text taken as just this number, by the plain one too?
func submitted(t *testing.T, c *client.Client, p *plain, text []byte, want int) {
	t.Helper()
	n, b, e := c.Submit(text)
	k, d, f := p.submit(text)
	if n != want || k != want || e != api.OK || f != api.OK || !bytes.Equal(b, d) {
		t.Errorf("Submit: %d, %x, %v, the plain one %d, %x, %v, want %d", n, b, e, k, d, f, want)
	}
	same(t, "behind Submit", c, p)
}

// three: a client, and a plain one, with the entries 1 to 3 under way.
func three(t *testing.T, signers int) (*client.Client, *plain) {
	t.Helper()
	c, p := fresh(t, number, signers)
	for num := 1; num <= 3; num++ {
		submitted(t, c, p, text(num), num)
	}
	return c, p
}

// hears: is this what Hear says of a message, of the plain one too?
func hears(t *testing.T, what string, c *client.Client, p *plain, from int, m api.Msg, want api.Errno) {
	t.Helper()
	if e, f := c.Hear(from, m), p.hear(from, m); e != want || f != want {
		t.Errorf("%s: %v, the plain one %v, want %v", what, e, f, want)
	}
	same(t, what, c, p)
}

// accept: enough sign a head.
func accept(t *testing.T, c *client.Client, p *plain, h book.Head) {
	t.Helper()
	for who := range need[p.signers] {
		hears(t, "a signed head", c, p, who, by(who, h), api.OK)
	}
	if got, ok := c.Accepted(h.Height); !ok || got != h {
		t.Errorf("Accepted(%d): %v, %v", h.Height, got, ok)
	}
}

// is: a message, that has no lists.
func is(a, b api.Msg) bool {
	return a.Kind == b.Kind && a.Who == b.Who && a.Height == b.Height && a.Round == b.Round && a.Valid == b.Valid && a.Num == b.Num && a.ID == b.ID &&
		len(a.Data)+len(a.IDs)+len(a.List)+len(b.Data)+len(b.IDs)+len(b.List) == 0
}

// same: is a client as the plain one?
func same(t *testing.T, what string, c *client.Client, p *plain) {
	t.Helper()
	open := slices.Clone(p.open)
	for num, b := range c.Open() {
		if len(open) == 0 || open[0].num != num || !bytes.Equal(open[0].bytes, b) {
			t.Fatalf("%s: Open goes through %d, %x", what, num, b)
		}
		open = open[1:]
	}
	if len(open) > 0 {
		t.Errorf("%s: Open lacks %d", what, open[0].num)
	}
	numbers := append([]int{0, 1, 2, 3, 4, 5, 6, 7, 8, 9}, odd...)
	for _, num := range append(numbers, slices.Collect(maps.Keys(p.taken))...) {
		got, ok := c.Taken(num)
		if want, is := p.taken[num]; got != want || ok != is {
			t.Errorf("%s: Taken(%d): %v, %v, want %v, %v", what, num, got, ok, want, is)
		}
	}
	for _, first := range numbers {
		for _, second := range numbers {
			if c.Linked(first, second) != slices.Contains(p.links, [2]int{first, second}) {
				t.Errorf("%s: Linked(%d, %d): %v", what, first, second, c.Linked(first, second))
			}
		}
	}
	if got, want := slices.Collect(c.Wants()), p.wants(); !slices.EqualFunc(got, want, is) {
		t.Errorf("%s: Wants goes through %v, want %v", what, got, want)
	}
	h, ok := c.Best()
	if want, is := p.heads.Best(); h != want || ok != is {
		t.Errorf("%s: Best: %v, %v, want %v, %v", what, h, ok, want, is)
	}
}
