package client_test

import (
	"bytes"
	"math"
	"slices"
	"testing"

	"scrivener/api"
	"scrivener/book"
	"scrivener/client"
	"scrivener/replica"
	"scrivener/sum"
	"scrivener/tree"
)

func TestNew(t *testing.T) { // P20.1
	if client.MaxOpen != 3 || replica.Proof != kindProof || replica.Link != kindLink {
		t.Errorf("MaxOpen: %d", client.MaxOpen)
	}
	for signers := range 12 {
		list := make([]api.ID, signers)
		for _, me := range append([]int{-2, 0, 1, 14, 15, 16}, odd...) {
			c, e := client.New(me, list...)
			good := (signers == 1 || signers == 4 || signers == 7) && me >= 0 && me <= 15
			if good && (c == nil || e != api.OK) || !good && (c != nil || e != api.ErrRange) {
				t.Errorf("New(%d) of %d: %v", me, signers, e)
			}
		}
	}
	for _, me := range []int{0, 15} {
		c, p := fresh(t, me, 4)
		same(t, "a new one", c, p)
		submitted(t, c, p, text(1), 1)
	}
}

func TestAnEntryIsTaken(t *testing.T) { // the chapter's example
	c, p := fresh(t, number, 4)
	submitted(t, c, p, text(1), 1)
	hears(t, "the proof alone", c, p, 2, placed(0, 2, 1), api.OK)
	if x, ok := c.Taken(1); ok || x != (client.Taken{}) {
		t.Errorf("the proof alone: %v, %v", x, ok)
	}
	accept(t, c, p, at(0, 2))
	if x, ok := c.Taken(1); !ok || x != (client.Taken{Height: 2, At: 1}) {
		t.Errorf("with the signed head: %v, %v", x, ok)
	}
	for num := range c.Open() {
		t.Errorf("%d is still under way", num)
	}
}

func TestSubmit(t *testing.T) { // P20.2: numbers from 1 on, and bytes with nothing else
	c, p := three(t, 4)
	var got [][]byte
	for num, b := range c.Open() {
		if num != len(got)+1 {
			t.Errorf("the number %d at %d", num, len(got))
		}
		got = append(got, b)
	}
	if !slices.EqualFunc(got, [][]byte{mine(1), mine(2), mine(3)}, bytes.Equal) {
		t.Errorf("Open: %x", got)
	}
	for i := range 4 {
		c, p := fresh(t, 4*i, 1)
		for num := 1; num <= 3; num++ {
			want, _ := book.Entry(4*i, num, []byte("t"))
			n, b, e := c.Submit([]byte("t"))
			p.submit([]byte("t"))
			if m, f := book.Check(b); n != num || e != api.OK || !bytes.Equal(b, want) || f != api.OK || m.Who != 4*i || m.Num != num {
				t.Errorf("of %d: %d, %x, %v", 4*i, n, b, e)
			}
		}
		same(t, "of another number", c, p)
	}
	same(t, "of the first", c, p)
}

func TestSubmitRefused(t *testing.T) { // P20.2, and the order of its errors
	c, p := fresh(t, number, 1)
	refused := func(what string, length int, want api.Errno) {
		t.Helper()
		n, b, e := c.Submit(make([]byte, length))
		if _, _, f := p.submit(make([]byte, length)); n != 0 || b != nil || e != want || f != want {
			t.Errorf("%s: %d, %x, %v, the plain one %v", what, n, b, e, f)
		}
		same(t, what, c, p)
	}
	for num := 1; num <= 3; num++ {
		refused("a byte too many", 257, api.ErrLong)
		refused("more than can be written", 131073, api.ErrLong)
		submitted(t, c, p, make([]byte, []int{0, 256, 255}[num-1]), num) // what is refused takes no number
	}
	refused("a fourth one", 0, api.ErrQuota)
	refused("a fourth one, too long", 257, api.ErrQuota)
	refused("a fourth one, much too long", 131073, api.ErrQuota)
}

func TestSubmitGoesOn(t *testing.T) { // P20.2, P20.3: what is believed is under way no more, and its number isn't given again
	c, p := three(t, 4)
	accept(t, c, p, at(0, 8))
	hears(t, "the second", c, p, 0, placed(0, 8, 4), api.OK)
	submitted(t, c, p, text(4), 4)
	hears(t, "the first", c, p, 0, placed(0, 8, 1), api.OK)
	submitted(t, c, p, text(5), 5)
	if _, _, e := c.Submit(text(6)); e != api.ErrQuota {
		t.Errorf("a fourth one: %v", e)
	}
	var under []int
	for num := range c.Open() {
		under = append(under, num)
	}
	if !slices.Equal(under, []int{3, 4, 5}) {
		t.Errorf("under way: %v", under)
	}
	for i, place := range []int{7, 10, 13} {
		hears(t, "one more", c, p, 0, placed(0, 8, place), api.OK)
		if x, ok := c.Taken(3 + i); !ok || x != (client.Taken{Height: 8, At: place}) {
			t.Errorf("Taken(%d): %v, %v", 3+i, x, ok)
		}
	}
	submitted(t, c, p, text(6), 6)
}

func TestOthersAreHeads(t *testing.T) { // P20.3: what a bundle says
	c, p := three(t, 4)
	good := by(2, at(0, 3))
	for kind := -1; kind < 40; kind++ {
		m := good
		m.Kind = kind
		if kind != kindHead && kind != kindProof && kind != kindLink {
			hears(t, "another kind", c, p, 2, m, api.ErrForm)
		}
	}
	for _, c2 := range []struct {
		what   string
		from   int
		change func(m *api.Msg)
		want   api.Errno
	}{
		{"a round", 2, func(m *api.Msg) { m.Round = 1 }, api.ErrForm},
		{"a byte too few", 2, func(m *api.Msg) { m.Data = m.Data[1:] }, api.ErrShort},
		{"a byte too many", 2, func(m *api.Msg) { m.Data = append(m.Data, 0) }, api.ErrRest},
		{"from another", 1, func(m *api.Msg) {}, api.ErrRange},
		{"from nobody", -1, func(m *api.Msg) {}, api.ErrRange},
		{"from one too many", 4, func(m *api.Msg) { m.Who = 4 }, api.ErrRange},
		{"no height", 2, func(m *api.Msg) { m.Height = 0 }, api.ErrRange},
		{"another root", 2, func(m *api.Msg) { m.ID[0]++ }, api.ErrSign},
		{"somebody else's", 1, func(m *api.Msg) { m.Who = 1 }, api.ErrSign},
		{"the good one", 2, func(m *api.Msg) {}, api.OK},
		{"the good one once more", 2, func(m *api.Msg) {}, api.ErrTwice},
	} {
		m := good
		m.Data = slices.Clone(good.Data)
		c2.change(&m)
		hears(t, c2.what, c, p, c2.from, m, c2.want)
	}
	if len(slices.Collect(c.At(3))) != 1 || len(slices.Collect(c.Bundle.At(3))) != 1 {
		t.Error("the head isn't in the bundle")
	}
}

func TestOpenMayBeLeft(t *testing.T) { // rule 6
	c, p := three(t, 4)
	open := c.Open()
	for left := range 3 {
		n := 0
		for num := range open {
			n++
			if num != n {
				t.Errorf("the number %d at %d", num, n)
			}
			if n == left+1 {
				break
			}
		}
		if n != left+1 {
			t.Errorf("left at %d: %d items", left, n)
		}
	}
	accept(t, c, p, at(0, 8))
	hears(t, "the second", c, p, 0, placed(0, 8, 4), api.OK)
	var now []int
	for num := range open { // what there is when the loop begins
		now = append(now, num)
	}
	if !slices.Equal(now, []int{1, 3}) {
		t.Errorf("gone through again: %v", now)
	}
}

func TestWithThoseWhoKeepTheBook(t *testing.T) { // P20.3, P20.4: what a replica answers is believed, and what it links is linked
	r := keeper(t)
	c, e := client.New(7, r.Public())
	if e != api.OK {
		t.Fatal(e)
	}
	tell := func(what string, outs []replica.Out) {
		t.Helper()
		for _, o := range outs {
			if !o.Client || o.To != 7 {
				t.Errorf("%s: for another", what)
			}
			if e := c.Hear(0, o.Msg); e != api.OK {
				t.Errorf("%s: %v", what, e)
			}
		}
	}
	for num := 1; num <= 8; num++ {
		n, b, e := c.Submit(text(num))
		outs, f := r.Submit(b)
		if n != num || e != api.OK || f != api.OK || len(outs) != 2 {
			t.Fatalf("Submit: %d, %v, %v, %d messages", n, e, f, len(outs))
		}
		tell("its answer", outs)
		if x, ok := c.Taken(num); !ok || x != (client.Taken{Height: num, At: num - 1}) {
			t.Errorf("Taken(%d): %v, %v", num, x, ok)
		}
		asked := 0
		for m := range c.Wants() {
			asked++
			tell("a link", r.Linked(7, m))
			if m.Num != asked || m.Height != num || !c.Linked(asked, num) {
				t.Errorf("%d isn't linked to %d, asked by %v", asked, num, m)
			}
		}
		if asked != num-1 || len(slices.Collect(c.Wants())) != 0 {
			t.Errorf("at %d: asked for %d", num, asked)
		}
	}
}

func TestNothingIsChangedOrKept(t *testing.T) { // P2
	keysOf := append(publics(4), api.ID{99})
	was := slices.Clone(keysOf)
	c, _ := client.New(number, keysOf[:4]...)
	_, p := fresh(t, number, 4)
	if !slices.Equal(keysOf, was) {
		t.Error("New changes the keys")
	}
	clear(keysOf)
	for num := 1; num <= 3; num++ {
		words := append(text(num), 'r', 'o', 'o', 'm')
		before := slices.Clone(words)
		_, b, e := c.Submit(words[:2])
		if p.submit(words[:2]); e != api.OK || !bytes.Equal(words, before) {
			t.Errorf("Submit changes the text, or %v", e)
		}
		clear(words)
		clear(b[:cap(b)])
	}
	for range 2 {
		for _, b := range c.Open() {
			clear(b[:cap(b)])
		}
	}
	same(t, "with what came and went cleared", c, p)
	spoil := func(m api.Msg, from int) {
		t.Helper()
		n := len(m.IDs)
		mine := m
		mine.Data, mine.IDs = append(slices.Clone(m.Data), 1, 2, 3), append(slices.Clone(m.IDs), api.ID{4}, api.ID{5})
		room, ids := slices.Clone(mine.Data), slices.Clone(mine.IDs)
		mine.Data, mine.IDs = mine.Data[:len(m.Data)], mine.IDs[:n]
		if e, f := c.Hear(from, mine), p.hear(from, m); e != f || e != api.OK || !bytes.Equal(mine.Data[:len(room)], room) || !slices.Equal(mine.IDs[:len(ids)], ids) {
			t.Errorf("Hear changes the message, or %v", e)
		}
		clear(mine.Data[:len(room)])
		clear(mine.IDs[:len(ids)])
	}
	spoil(placed(0, 5, 4), 0)
	for who := range 3 {
		spoil(by(who, at(0, 5)), who)
		spoil(by(who, at(0, 2)), who)
	}
	same(t, "with messages cleared", c, p)
	spoil(linked(0, 2, 5), 0)
	same(t, "with a link cleared", c, p)
	if x, ok := c.Taken(2); !ok || x != (client.Taken{Height: 5, At: 4}) {
		t.Errorf("Taken: %v, %v", x, ok)
	}
}

func TestClientsAreApart(t *testing.T) { // P2
	one, p := three(t, 4)
	two, q := three(t, 4)
	accept(t, one, p, at(0, 5))
	accept(t, one, p, at(0, 2))
	accept(t, two, q, at(1, 5))
	hears(t, "one", one, p, 0, placed(0, 5, 4), api.OK)
	hears(t, "two", two, q, 0, placed(1, 5, 4), api.OK)
	hears(t, "one", one, p, 0, linked(0, 2, 5), api.OK)
	same(t, "one", one, p)
	same(t, "two", two, q)
}

func TestAllArguments(t *testing.T) { // P1
	numbers := append([]int{0, 1, 2, 8, 9, 1 << 40, 1<<40 + 1, math.MaxInt - 1}, odd...)
	for _, signers := range []int{1, 4} {
		c, p := three(t, signers)
		accept(t, c, p, book.Head{Height: 1, Size: 1 << 40, Root: api.ID{1}})
		accept(t, c, p, book.Head{Height: 2})
		for kind := -1; kind < 12; kind++ {
			for _, n := range numbers {
				for _, k := range numbers {
					m := api.Msg{Kind: kind, Who: n, Height: k, Round: n, Valid: k, Num: n, Data: mine(2), IDs: make([]api.ID, 40), List: [][]byte{{1}}}
					if e, f := c.Hear(n, m), p.hear(n, m); e != f {
						t.Errorf("kind %d, %d, %d: %v, want %v", kind, n, k, e, f)
					}
					m.Data, m.IDs, m.List = nil, nil, nil
					if e, f := c.Hear(k, m), p.hear(k, m); e != f {
						t.Errorf("kind %d, %d, %d, without lists: %v, want %v", kind, n, k, e, f)
					}
				}
			}
		}
		same(t, "behind all", c, p)
	}
}

func TestAWayOfManySums(t *testing.T) { // P20.3: in as many entries as a head may have
	c, p := three(t, 1)
	way := make([]api.ID, 40)
	root := sum.Leaf(mine(1))
	for i := range way {
		way[i] = api.ID{byte(i)}
		root = sum.Node(way[i], root)
	}
	hears(t, "the proof", c, p, 0, api.Msg{Kind: kindProof, Height: 1, Num: 1<<40 - 1, IDs: way, Data: mine(1)}, api.OK)
	accept(t, c, p, book.Head{Height: 1, Size: 1 << 40, Root: root})
	if x, ok := c.Taken(1); !ok || x != (client.Taken{Height: 1, At: 1<<40 - 1}) {
		t.Errorf("Taken: %v, %v", x, ok)
	}
	alone := tree.Root(tree.Entries(mine(2))...)
	accept(t, c, p, book.Head{Height: 2, Size: 1, Root: alone})
	hears(t, "one alone", c, p, 0, api.Msg{Kind: kindProof, Height: 2, Data: mine(2)}, api.OK)
	if x, ok := c.Taken(2); !ok || x != (client.Taken{Height: 2}) {
		t.Errorf("Taken of one alone: %v, %v", x, ok)
	}
}
