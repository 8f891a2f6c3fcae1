package client_test

import (
	"math/rand"
	"slices"
	"testing"

	"scrivener/api"
	"scrivener/book"
	"scrivener/client"
	"scrivener/pack"
	"scrivener/replica"
	"scrivener/slab"
)

// keeper: one who keeps the book alone.
func keeper(t *testing.T) *replica.Replica {
	t.Helper()
	d, _ := slab.New(1 << 18)
	r, e := replica.Open(1, 0, api.ID{20}, d)
	if e != api.OK {
		t.Fatal(e)
	}
	return r
}

// written: a message as bytes.
func written(t *testing.T, m api.Msg) []byte {
	t.Helper()
	b, e := pack.Write(m)
	if e != api.OK {
		t.Fatal(e)
	}
	return b
}

func TestProofRefused(t *testing.T) { // P20.3, and the order of its errors
	entry := api.Msg{Kind: 1, Who: number, Num: 2, Data: text(2)}
	other := func(change func(m *api.Msg)) []byte {
		m := entry
		change(&m)
		return written(t, m)
	}
	c, p := three(t, 4)
	accept(t, c, p, at(0, 5))
	good := placed(0, 5, 4)
	for _, x := range []struct {
		what string
		data []byte
		want api.Errno
	}{
		{"no data", nil, api.ErrShort},
		{"a byte too few", mine(2)[:len(mine(2))-1], api.ErrShort},
		{"another tag behind it", append(mine(2), 0), api.ErrTag},
		{"one more entry behind it", append(mine(2), mine(2)...), api.ErrTag},
		{"another kind", other(func(m *api.Msg) { m.Kind = 2 }), api.ErrForm},
		{"a height", other(func(m *api.Msg) { m.Height = 1 }), api.ErrForm},
		{"of nobody", other(func(m *api.Msg) { m.Who = 16 }), api.ErrForm},
		{"without a number", other(func(m *api.Msg) { m.Num = 0 }), api.ErrForm},
		{"too long", other(func(m *api.Msg) { m.Data = make([]byte, 257) }), api.ErrLong},
		{"of another client", other(func(m *api.Msg) { m.Who = 1 }), api.ErrMissing},
		{"of no client", other(func(m *api.Msg) { m.Who = 0 }), api.ErrMissing},
		{"of the next number", other(func(m *api.Msg) { m.Num = 4 }), api.ErrMissing},
		{"of the greatest number", other(func(m *api.Msg) { m.Num = 1 << 40 }), api.ErrMissing},
		{"another text", other(func(m *api.Msg) { m.Data = text(1) }), api.ErrMissing},
		{"a longer text", other(func(m *api.Msg) { m.Data = append(text(2), 0) }), api.ErrMissing},
		{"no text", other(func(m *api.Msg) { m.Data = nil }), api.ErrMissing},
	} {
		for _, ids := range [][]api.ID{nil, good.IDs, make([]api.ID, 65)} {
			hears(t, x.what, c, p, 0, api.Msg{Kind: kindProof, Height: 5, Num: 4, IDs: ids, Data: x.data}, x.want)
		}
	}
	for _, count := range []int{65, 66, 1000} {
		hears(t, "too many sums", c, p, 0, api.Msg{Kind: kindProof, Height: 5, Num: 4, IDs: make([]api.ID, count), Data: mine(2)}, api.ErrLong)
	}
	hears(t, "sums enough", c, p, 0, api.Msg{Kind: kindProof, Height: 5, Num: 3, IDs: make([]api.ID, 64), Data: mine(2)}, api.OK)
	hears(t, "the good one", c, p, 0, good, api.OK)
	hears(t, "what is believed already", c, p, 0, good, api.ErrMissing)
	good.IDs = make([]api.ID, 65)
	hears(t, "what is believed already, with too many sums", c, p, 0, good, api.ErrMissing)
}

func TestARefusedProofIsNotKept(t *testing.T) { // P2, P20.3: neither does it stand for the one that is there
	c, p := three(t, 4)
	hears(t, "the good one", c, p, 0, placed(0, 5, 4), api.OK)
	long := placed(0, 5, 4)
	long.IDs = make([]api.ID, 65)
	hears(t, "too long a one", c, p, 0, long, api.ErrLong)
	for height := range 9 {
		long.Height = height
		hears(t, "too long ones", c, p, 0, long, api.ErrLong)
	}
	accept(t, c, p, at(0, 5))
	if _, ok := c.Taken(2); !ok {
		t.Error("the good one is gone")
	}
}

func TestWhoProvesDoesNotCount(t *testing.T) { // P20.3, P20.4: what else such a message has neither
	for _, from := range append([]int{0, 1, 3, 4}, odd...) {
		c, p := three(t, 4)
		accept(t, c, p, at(0, 5))
		accept(t, c, p, at(0, 2))
		m := placed(0, 5, 4)
		m.Who, m.Round, m.Valid, m.ID, m.List = from, from, from, api.ID{7}, [][]byte{{1}}
		hears(t, "a proof from somebody", c, p, from, m, api.OK)
		if x, ok := c.Taken(2); !ok || x != (client.Taken{Height: 5, At: 4}) {
			t.Errorf("from %d: %v, %v", from, x, ok)
		}
		l := linked(0, 2, 5)
		l.Who, l.Round, l.Valid, l.ID, l.List, l.Data = from, from, from, api.ID{7}, [][]byte{{1}}, []byte{2}
		hears(t, "a link from somebody", c, p, from, l, api.OK)
		if !c.Linked(2, 5) {
			t.Errorf("from %d: not linked", from)
		}
	}
}

func TestHeadAndProofInEachOrder(t *testing.T) { // P20.3: as soon as both are there, and enough signed
	for behind := range 4 { // how many heads come ahead of the proof
		c, p := three(t, 4)
		for i := range 3 {
			if i == behind {
				hears(t, "the proof", c, p, 3, placed(0, 6, 7), api.OK)
			}
			if _, ok := c.Taken(3); ok {
				t.Errorf("the proof behind %d: Taken at %d already", behind, i)
			}
			hears(t, "a head", c, p, 3-i, by(3-i, at(0, 6)), api.OK)
		}
		if behind == 3 {
			hears(t, "the proof", c, p, 3, placed(0, 6, 7), api.OK)
		}
		if x, ok := c.Taken(3); !ok || x != (client.Taken{Height: 6, At: 7}) {
			t.Errorf("the proof behind %d: %v, %v", behind, x, ok)
		}
		hears(t, "a fourth head", c, p, 0, by(0, at(1, 6)), api.OK)
	}
}

func TestHeadsThatComeToTheBundle(t *testing.T) { // P20.3: a client's Add is the bundle's; what it says counts at once
	c, p := three(t, 1)
	hears(t, "a proof", c, p, 0, placed(0, 5, 4), api.OK)
	if c.Add(0, by(0, at(0, 5))) != api.OK || p.hear(0, by(0, at(0, 5))) != api.OK {
		t.Fatal("Add")
	}
	if n, _, e := c.Submit(text(4)); n != 4 || e != api.OK {
		t.Errorf("Submit: %d, %v", n, e)
	}
	p.submit(text(4))
	same(t, "behind Add", c, p)

	asks := map[string]func(c *client.Client) bool{
		"Taken": func(c *client.Client) bool { x, ok := c.Taken(2); return ok && x == client.Taken{Height: 5, At: 4} },
		"Open": func(c *client.Client) bool {
			n := 0
			for range c.Open() {
				n++
			}
			return n == 2
		},
		"Hear": func(c *client.Client) bool { return c.Hear(0, placed(0, 5, 4)) == api.ErrMissing },
		"Wants": func(c *client.Client) bool {
			return len(slices.Collect(c.Wants())) == 0
		},
	}
	for what, ask := range asks {
		c, p := three(t, 1)
		hears(t, "a proof", c, p, 0, placed(0, 5, 4), api.OK)
		if c.Bundle.Add(0, by(0, at(0, 5))) != api.OK || !ask(c) {
			t.Errorf("%s behind Add of the bundle", what)
		}
	}
}

func TestWrongProofs(t *testing.T) { // P20.3: they are heard, and not believed
	good := placed(0, 5, 4)
	for what, change := range map[string]func(m *api.Msg){
		"another place":           func(m *api.Msg) { m.Num = 3 },
		"the place behind":        func(m *api.Msg) { m.Num = 5 },
		"no place":                func(m *api.Msg) { m.Num = -1 },
		"the place behind all":    func(m *api.Msg) { m.Num = 7 },
		"another height":          func(m *api.Msg) { m.Height = 6 },
		"a height without a head": func(m *api.Msg) { m.Height = 7 },
		"a height of two minds":   func(m *api.Msg) { m.Height = 8 },
		"no height":               func(m *api.Msg) { m.Height = 0 },
		"a height below 0":        func(m *api.Msg) { m.Height = -5 },
		"a sum too few":           func(m *api.Msg) { m.IDs = m.IDs[1:] },
		"a sum too many":          func(m *api.Msg) { m.IDs = append(m.IDs, api.ID{}) },
		"another sum":             func(m *api.Msg) { m.IDs[1][31]++ },
		"the sums turned round":   func(m *api.Msg) { slices.Reverse(m.IDs) },
		"no sums":                 func(m *api.Msg) { m.IDs = nil },
		"another entry":           func(m *api.Msg) { m.Data = mine(3) },
		"of another book":         func(m *api.Msg) { m.IDs = placed(1, 5, 4).IDs },
	} {
		c, p := three(t, 4)
		accept(t, c, p, at(0, 5))
		accept(t, c, p, at(0, 6))
		for who := range 4 {
			hears(t, "of two minds", c, p, who, by(who, at(who/2, 8)), api.OK)
		}
		m := good
		m.IDs = slices.Clone(good.IDs)
		change(&m)
		hears(t, what, c, p, 0, m, api.OK)
		for num := range 5 {
			if x, ok := c.Taken(num); ok {
				t.Errorf("%s: %d is Taken at %v", what, num, x)
			}
		}
		hears(t, what+", and then the good one", c, p, 0, good, api.OK)
		if x, ok := c.Taken(2); !ok || x != (client.Taken{Height: 5, At: 4}) {
			t.Errorf("%s, and then the good one: %v, %v", what, x, ok)
		}
	}
}

func TestHeadOfAnotherBook(t *testing.T) { // P20.3: the proof must lead to the head that is accepted
	c, p := three(t, 4)
	hears(t, "of one book", c, p, 0, placed(0, 6, 7), api.OK)
	accept(t, c, p, at(1, 6))
	if _, ok := c.Taken(3); ok {
		t.Error("believed by the head of another book")
	}
	hears(t, "of the other one", c, p, 0, placed(1, 6, 4), api.OK)
	if x, ok := c.Taken(3); !ok || x != (client.Taken{Height: 6, At: 4}) {
		t.Errorf("Taken: %v, %v", x, ok)
	}
}

// spoilt: a proof that leads nowhere.
func spoilt(height, place int) api.Msg {
	return api.Msg{Kind: kindProof, Height: height, Num: place, IDs: make([]api.ID, 3), Data: mine(2)}
}

func TestTheLastOfAHeightAndPlace(t *testing.T) { // P20.3
	c, p := three(t, 4)
	hears(t, "a good one", c, p, 0, placed(0, 5, 4), api.OK)
	hears(t, "a wrong one", c, p, 0, spoilt(5, 4), api.OK)
	accept(t, c, p, at(0, 5))
	if _, ok := c.Taken(2); ok {
		t.Error("believed by one that isn't the last")
	}
	hears(t, "a good one once more", c, p, 0, placed(0, 5, 4), api.OK)
	if _, ok := c.Taken(2); !ok {
		t.Error("not believed by the last")
	}

	c, p = three(t, 4)
	hears(t, "a good one", c, p, 0, placed(0, 5, 4), api.OK)
	hears(t, "of another place", c, p, 0, spoilt(5, 3), api.OK)
	hears(t, "of another height", c, p, 0, spoilt(6, 4), api.OK)
	hears(t, "of another entry", c, p, 0, placed(0, 6, 7), api.OK)
	other := spoilt(5, 4)
	other.Data = mine(3)
	hears(t, "of another entry, for the same place", c, p, 0, other, api.OK)
	accept(t, c, p, at(0, 5))
	if _, ok := c.Taken(2); !ok {
		t.Error("one for another place, height or entry stands for it")
	}
}

func TestEightProofs(t *testing.T) { // P20.3: of more the eldest isn't any more
	for _, others := range []int{6, 7, 8, 9} {
		c, p := three(t, 4)
		hears(t, "a good one", c, p, 0, placed(0, 5, 4), api.OK)
		for i := range others {
			hears(t, "another one", c, p, 0, spoilt(6-i%3, 100+i), api.OK)
		}
		accept(t, c, p, at(0, 5))
		if _, ok := c.Taken(2); ok != (others < 8) {
			t.Errorf("behind %d others: %v", others, ok)
		}
	}
}

func TestEightProofsOfEach(t *testing.T) { // P20.3: those of another entry don't count
	c, p := three(t, 4)
	hears(t, "a good one", c, p, 0, placed(0, 5, 4), api.OK)
	for i := range 20 {
		m := spoilt(5, i)
		m.Data = mine(1 + 2*(i%2))
		hears(t, "of others", c, p, 0, m, api.OK)
	}
	accept(t, c, p, at(0, 5))
	if _, ok := c.Taken(2); !ok {
		t.Error("gone by those of others")
	}
}

func TestTheLastIsTheYoungest(t *testing.T) { // P20.3: one that comes once more isn't the eldest, and doesn't count twice
	c, p := three(t, 4)
	hears(t, "a wrong one", c, p, 0, spoilt(5, 4), api.OK)
	for i := range 7 {
		hears(t, "another one", c, p, 0, spoilt(6, i), api.OK)
	}
	hears(t, "the good one for the first", c, p, 0, placed(0, 5, 4), api.OK)
	for i := range 7 {
		hears(t, "another one", c, p, 0, spoilt(7, i), api.OK)
	}
	accept(t, c, p, at(0, 5))
	if _, ok := c.Taken(2); !ok {
		t.Error("it counts as old as the one ahead of it")
	}

	c, p = three(t, 4)
	hears(t, "a good one", c, p, 0, placed(0, 5, 4), api.OK)
	for i := range 20 {
		hears(t, "another one", c, p, 0, spoilt(6, i%7), api.OK)
	}
	accept(t, c, p, at(0, 5))
	if _, ok := c.Taken(2); !ok {
		t.Error("one that comes often counts often")
	}
}

func TestSeveralThatLead(t *testing.T) { // P20.3: of several any one, and that for good
	c, p := three(t, 1)
	for _, height := range []int{6, 5, 8} {
		hears(t, "one that leads", c, p, 0, placed(0, height, 4), api.OK)
	}
	for _, height := range []int{8, 5, 6} {
		hears(t, "a signed head", c, p, 0, by(0, at(0, height)), api.OK)
		if x, ok := c.Taken(2); !ok || x != (client.Taken{Height: 8, At: 4}) {
			t.Errorf("Taken: %v, %v", x, ok)
		}
	}
	accept(t, c, p, at(0, 3))
	for num, place := range map[int]int{1: 1, 3: 7} {
		hears(t, "one more", c, p, 0, placed(0, 8, place), api.OK)
		if x, ok := c.Taken(num); !ok || x != (client.Taken{Height: 8, At: place}) {
			t.Errorf("Taken(%d): %v, %v", num, x, ok)
		}
	}
}

func TestSeveralBelievedAtOnce(t *testing.T) { // P20.3: by one head, whichever other proofs there are
	c, p := three(t, 4)
	for _, place := range []int{7, 1, 4} {
		for i := range 3 {
			m := spoilt(8-i, place)
			m.Data = entries(0)[place]
			hears(t, "wrong ones", c, p, 0, m, api.OK)
		}
		hears(t, "a good one", c, p, 0, placed(0, 6, place), api.OK)
		m := spoilt(5, place)
		m.Data = entries(0)[place]
		hears(t, "a wrong one", c, p, 0, m, api.OK)
	}
	accept(t, c, p, at(0, 6))
	for num := 1; num <= 3; num++ {
		if x, ok := c.Taken(num); !ok || x != (client.Taken{Height: 6, At: 3*num - 2}) {
			t.Errorf("Taken(%d): %v, %v", num, x, ok)
		}
	}
}

func TestLinkRefused(t *testing.T) { // P20.4, and the order of its errors
	c, p := three(t, 4)
	for _, height := range []int{1, 3, 5, 6} {
		accept(t, c, p, at(0, height))
	}
	for who := range 2 {
		hears(t, "too few", c, p, who, by(who, at(0, 7)), api.OK)
	}
	for _, x := range []struct {
		what          string
		first, second int
		ids           []api.ID
		want          api.Errno
	}{
		{"no first head", 2, 5, linked(0, 2, 5).IDs, api.ErrMissing},
		{"no second head", 3, 4, nil, api.ErrMissing},
		{"no head", 2, 4, nil, api.ErrMissing},
		{"not enough signed the second", 5, 7, linked(0, 5, 7).IDs, api.ErrMissing},
		{"not enough signed the first", 7, 6, nil, api.ErrMissing},
		{"no first head, and none that there may be", 0, 5, nil, api.ErrMissing},
		{"above all", 5, 9, nil, api.ErrMissing},
		{"below all", -1, 5, nil, api.ErrMissing},
		{"no entries, and no second head", 1, 4, nil, api.ErrMissing},
		{"no entries", 1, 5, nil, api.ErrRange},
		{"no entries, in both", 1, 1, nil, api.ErrRange},
		{"to one without entries", 5, 1, nil, api.ErrRange},
		{"turned round", 5, 3, linked(0, 3, 5).IDs, api.ErrRange},
		{"turned round, without sums", 5, 3, nil, api.ErrRange},
		{"no sums", 3, 5, nil, api.ErrProof},
		{"a sum too few", 3, 5, linked(0, 3, 5).IDs[1:], api.ErrProof},
		{"a sum too many", 3, 5, append(linked(0, 3, 5).IDs, api.ID{}), api.ErrProof},
		{"many sums too many", 3, 5, make([]api.ID, 1000), api.ErrProof},
		{"those of another first", 3, 5, linked(0, 2, 5).IDs, api.ErrProof},
		{"those of another second", 3, 5, linked(0, 3, 6).IDs, api.ErrProof},
		{"those of another book", 5, 6, linked(1, 5, 6).IDs, api.ErrProof},
		{"to itself, with sums", 5, 5, []api.ID{{}}, api.ErrProof},
	} {
		hears(t, x.what, c, p, 0, api.Msg{Kind: kindLink, Num: x.first, Height: x.second, IDs: x.ids}, x.want)
		if c.Linked(x.first, x.second) {
			t.Errorf("%s: linked", x.what)
		}
	}
	hears(t, "the good one", c, p, 0, linked(0, 3, 5), api.OK)
	if !c.Linked(3, 5) {
		t.Error("the good one isn't linked")
	}
	hears(t, "a wrong one behind it", c, p, 0, linked(0, 2, 5), api.ErrMissing)
	hears(t, "a wrong one behind it", c, p, 0, api.Msg{Kind: kindLink, Num: 3, Height: 5}, api.ErrProof)
	hears(t, "the good one once more", c, p, 0, linked(0, 3, 5), api.OK)
	if !c.Linked(3, 5) {
		t.Error("what was believed is taken back")
	}
}

func TestLinksThatAreNotHeard(t *testing.T) { // P20.4: just what was heard is believed
	c, p := three(t, 1)
	for _, height := range []int{2, 3, 4, 5, 6} {
		accept(t, c, p, at(0, height))
	}
	hears(t, "2 to 3", c, p, 0, linked(0, 2, 3), api.OK)
	hears(t, "3 to 6", c, p, 0, linked(0, 3, 6), api.OK)
	for _, x := range [][2]int{{3, 2}, {6, 3}, {2, 6}, {2, 2}, {3, 3}, {3, 4}, {4, 6}, {0, 2}} {
		if c.Linked(x[0], x[1]) {
			t.Errorf("%v is linked", x)
		}
	}
	hears(t, "to itself", c, p, 0, api.Msg{Kind: kindLink, Num: 5, Height: 5}, api.OK)
	hears(t, "to one that has no more", c, p, 0, api.Msg{Kind: kindLink, Num: 3, Height: 4}, api.OK)
	hears(t, "and back", c, p, 0, api.Msg{Kind: kindLink, Num: 4, Height: 3}, api.OK)
	for _, x := range [][2]int{{2, 3}, {3, 6}, {5, 5}, {3, 4}, {4, 3}} {
		if !c.Linked(x[0], x[1]) {
			t.Errorf("%v isn't linked", x)
		}
	}
}

func TestTwoBooks(t *testing.T) { // P20.4: a list that doesn't begin with another isn't linked to it
	c, p := three(t, 4)
	accept(t, c, p, at(0, 3))
	accept(t, c, p, at(0, 5))
	accept(t, c, p, at(1, 6))
	for which := range 2 {
		hears(t, "a book's link", c, p, 0, linked(which, 5, 6), api.ErrProof)
	}
	hears(t, "where they were alike", c, p, 0, linked(1, 3, 6), api.OK)
	hears(t, "where they were alike", c, p, 0, linked(0, 3, 5), api.OK)
}

// wants: for which heights is asked, to which one.
func wants(t *testing.T, c *client.Client, second int, firsts ...int) {
	t.Helper()
	var want []api.Msg
	for _, first := range firsts {
		want = append(want, api.Msg{Kind: kindLink, Who: number, Height: second, Num: first})
	}
	if got := slices.Collect(c.Wants()); !slices.EqualFunc(got, want, is) {
		t.Errorf("Wants: %v, want %v", got, want)
	}
}

func TestWants(t *testing.T) { // P20.4
	c, p := three(t, 4)
	wants(t, c, 0)
	accept(t, c, p, at(0, 5))
	wants(t, c, 0)
	accept(t, c, p, at(0, 4))
	wants(t, c, 5, 4)
	accept(t, c, p, at(0, 1)) // it has no entries
	wants(t, c, 5, 4)
	accept(t, c, p, at(0, 2))
	wants(t, c, 5, 2, 4)
	for who := range 2 {
		hears(t, "too few", c, p, who, by(who, at(0, 3)), api.OK)
		hears(t, "too few", c, p, who, by(who, at(0, 7)), api.OK)
	}
	wants(t, c, 5, 2, 4)
	hears(t, "a link", c, p, 0, linked(0, 2, 5), api.OK)
	wants(t, c, 5, 4)
	hears(t, "a link to another", c, p, 0, linked(0, 2, 4), api.OK)
	wants(t, c, 5, 4)
	hears(t, "enough", c, p, 2, by(2, at(0, 3)), api.OK)
	wants(t, c, 5, 3, 4)
	hears(t, "enough of a greater one", c, p, 2, by(2, at(0, 7)), api.OK)
	wants(t, c, 7, 2, 3, 4, 5)
	for _, first := range []int{4, 2, 5} {
		hears(t, "a link", c, p, 0, linked(0, first, 7), api.OK)
	}
	wants(t, c, 7, 3)
	hears(t, "the last one", c, p, 0, linked(0, 3, 7), api.OK)
	wants(t, c, 7)
	accept(t, c, p, book.Head{Height: 8}) // those that can't be linked are asked for too
	wants(t, c, 8, 2, 3, 4, 5, 7)
}

func TestWantsMayBeLeft(t *testing.T) { // rule 6
	c, p := three(t, 1)
	asks := c.Wants()
	wants(t, c, 0)
	for _, height := range []int{6, 3, 2, 5} {
		accept(t, c, p, at(0, height))
	}
	for left := range 3 {
		n := 0
		for m := range asks {
			if m.Num != []int{2, 3, 5}[n] || m.Height != 6 {
				t.Errorf("asked at %d: %v", n, m)
			}
			if n++; n > left {
				break
			}
		}
		if n != left+1 {
			t.Errorf("left at %d: %d items", left, n)
		}
	}
	hears(t, "a link", c, p, 0, linked(0, 3, 6), api.OK)
	if got := slices.Collect(asks); !slices.EqualFunc(got, p.wants(), is) || len(got) != 2 {
		t.Errorf("gone through again: %v", got)
	}
}

// drawn: a message, right or wrong.
func drawn(r *rand.Rand) (int, api.Msg) {
	which, height := r.Intn(12)/11, 1+r.Intn(8)
	first := 1 + r.Intn(height)
	var m api.Msg
	switch r.Intn(3) {
	case 0:
		who := r.Intn(4)
		return who, by(who, at(which, height))
	case 1:
		first, height = max(first, 2), max(height, 2)
		m = linked(which, first, height)
	case 2:
		height = max(height, 2)
		places := []int{1, 4, 7, 10, 13, 16}
		place := places[r.Intn((sizes[height]+1)/3)]
		m = placed(which, height, place)
	}
	switch r.Intn(10) {
	case 0:
		m.Num += r.Intn(3) - 1
	case 1:
		m.Height += r.Intn(3) - 1
	case 2:
		m.IDs = append(m.IDs, api.ID{})
	case 3:
		if len(m.IDs) > 0 {
			m.IDs[r.Intn(len(m.IDs))][0]++
		}
	case 4:
		m.Data = mine(1 + r.Intn(6))
	case 5:
		m.Height = odd[r.Intn(len(odd))]
	}
	return r.Intn(5), m
}

func TestDrawnMessages(t *testing.T) { // P20.2, P20.3, P20.4
	r := rand.New(rand.NewSource(20))
	taken, links := 0, 0
	for i := range 40 {
		signers := []int{1, 4}[i%2]
		c, p := three(t, signers)
		for range 120 {
			if r.Intn(8) == 0 {
				n, _, e := c.Submit(text(p.last + 1))
				if k, _, f := p.submit(text(p.last + 1)); n != k || e != f {
					t.Fatalf("Submit: %d, %v, want %d, %v", n, e, k, f)
				}
			}
			from, m := drawn(r)
			if e, f := c.Hear(from, m), p.hear(from, m); e != f {
				t.Fatalf("Hear of %d from %d: %v, want %v", m.Kind, from, e, f)
			}
			same(t, "drawn", c, p)
		}
		taken, links = taken+len(p.taken), links+len(p.links)
	}
	if taken < 40 || links < 200 {
		t.Errorf("only %d are taken, and %d linked", taken, links)
	}
}
