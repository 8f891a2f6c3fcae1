package replica_test

import (
	"bytes"
	"fmt"
	"math/rand"
	"testing"

	"scrivener/api"
	"scrivener/core"
	"scrivener/replica"
)

func TestHearOfNobody(t *testing.T) { // P19.4: from another one, else nothing
	one := batch(t, entry(t, 1, 1, "x"))
	for _, voters := range []int{1, 4, 7} {
		r := fresh(t, voters, 0)
		for _, from := range append([]int{0, voters}, odd...) {
			for _, m := range []api.Msg{state(1, 1, none), offer(1, 0, 0, one), value(1, 1, one), state(1, 2), decided(1, 1, one)} {
				told(t, "from nobody", r.Hear(from, m))
				told(t, "a tick", r.Tick())
			}
		}
		has(t, "from nobody", r, list{}, 0, -1)
	}
	r := fresh(t, 4, 0)
	decide(t, r, 4, 0, nil)
	for _, from := range append([]int{0, 4}, odd...) {
		told(t, "from nobody", r.Hear(from, api.Msg{Kind: 8, Height: 1}))
		told(t, "from nobody", r.Hear(from, state(1, 1)))
	}
}

func TestHearOfTheHeightHere(t *testing.T) { // P19.4: by a message of agreement it is begun, whatever stands in it
	for kind := -2; kind <= 33; kind++ {
		for _, who := range []int{0, 3, -7} {
			r := fresh(t, 4, 2)
			told(t, "a message", r.Hear(3, api.Msg{Kind: kind, Who: who, Height: 1, Round: 99, List: [][]byte{nil}}))
			begun := -1
			if kind >= 3 && kind <= 5 {
				begun = 0
			}
			has(t, fmt.Sprint("the kind ", kind), r, list{}, 0, begun)
			told(t, "a tick", r.Tick())
			told(t, "a tick", r.Tick())
			var want []replica.Out
			if begun == 0 { // the timer of the first round is over
				want = others(state(2, 1, none), state(2, 1, none)) // as it is voted, and once more
			}
			told(t, "the third tick", r.Tick(), want...)
		}
	}
}

func TestHearIsTheCores(t *testing.T) { // P19.4: what the core sends goes to all others, as long as nothing is agreed upon
	random := rand.New(rand.NewSource(7))
	batches := [][]byte{nil, []byte("x"), batch(t, entry(t, 1, 1, "x")), batch(t, entry(t, 2, 1, "y")), make([]byte, 4096), make([]byte, 4097)}
	far := 0
	for range 100 {
		voters := 4 + 3*random.Intn(2)
		me := random.Intn(voters)
		r := fresh(t, voters, me)
		c, e := core.New(voters, me, 1)
		if e != api.OK {
			t.Fatal(e)
		}
		begun := false
		var waiting [][]byte
		for range 250 {
			from := (me + 1 + random.Intn(voters-1)) % voters
			n := random.Intn(max(r.Round(), 0) + 2)
			m := api.Msg{Kind: 3 + random.Intn(3), Who: from, Height: 1, Round: n, Valid: random.Intn(n+2) * random.Intn(2), Data: batches[random.Intn(len(batches))]}
			if m.Kind == core.State {
				for range random.Intn(2*n + 3) {
					m.IDs = append(m.IDs, []api.ID{zero, none, none, none, core.ID(batches[random.Intn(4)])}[random.Intn(5)])
				}
			}
			var got []replica.Out
			var want []api.Msg
			switch x := random.Intn(10); {
			case x < 6:
				got = r.Hear(from, m)
				if !begun {
					want = c.Join()
				}
				want = append(want, c.Hear(from, m)...)
				begun = true
			case x < 9:
				got = r.Tick()
				if begun {
					want = c.Tick()
				}
			case len(waiting) < 8:
				b := entry(t, len(waiting), 1, "z")
				waiting = append(waiting, b)
				got, _ = r.Submit(b)
				want = c.Suggest(batch(t, waiting...))
				if !begun {
					want = append(want, c.Join()...)
				}
				begun = true
			}
			if _, done := c.Done(); done {
				break
			}
			told(t, "a call", got, others(want...)...)
			n, _ = c.Where()
			has(t, "a call", r, list{}, len(waiting), n)
			far = max(far, n)
		}
	}
	if far < 4 {
		t.Errorf("only the round %d was tried", far)
	}
}

func TestHearOfAHeightThatItHas(t *testing.T) { // P19.4: of the kinds 3, 4 and 8 what was agreed upon
	r := fresh(t, 4, 2)
	all := [][]byte{batch(t, entry(t, 1, 1, "x")), nil, []byte("no batch"), bytes.Repeat([]byte{9}, 5000), nil, []byte("6"), []byte("7"), []byte("8")}
	for height := 1; height <= 8; height++ {
		for kind := -2; kind <= 33; kind++ {
			for asked := -2; asked <= 10; asked++ {
				var want []replica.Out
				if (kind == 3 || kind == 4 || kind == 8) && asked >= 1 && asked < height {
					want = []replica.Out{{To: 3, Msg: decided(2, asked, all[asked-1])}}
				}
				if asked == height { // there it would be begun
					continue
				}
				told(t, "a message", r.Hear(3, api.Msg{Kind: kind, Height: asked, Who: 1, Data: []byte("x")}), want...)
			}
		}
		if r.Round() != -1 {
			t.Errorf("the height %d is begun", height)
		}
		decide(t, r, 4, 2, all[height-1])
	}
	for height := 1; height <= 8; height++ {
		for _, kind := range []int{3, 4, 8} {
			told(t, "at the end", r.Hear(0, api.Msg{Kind: kind, Height: height}), replica.Out{To: 0, Msg: decided(2, height, all[height-1])})
		}
	}
	for _, n := range append([]int{9, 0}, odd...) { // behind the last one nothing is agreed upon
		for kind := -2; kind <= 33; kind++ {
			told(t, "no height", r.Hear(0, api.Msg{Kind: kind, Height: n}))
			told(t, "no height", r.Hear(1, api.Msg{Kind: kind, Height: n}))
		}
	}
	told(t, "a tick", r.Tick())
	if r.Height() != 8 || r.Round() != -1 {
		t.Error("at the end")
	}
}

// ask is what one asks for, at the height here.
func ask(who, height int) []replica.Out { return others(api.Msg{Kind: 8, Who: who, Height: height}) }

func TestHearOfALaterHeight(t *testing.T) { // P19.4: it asks, till it is there
	for kind := -2; kind <= 33; kind++ {
		for _, later := range []int{2, 5, 8} {
			r := fresh(t, 4, 2)
			told(t, "a later height", r.Hear(3, api.Msg{Kind: kind, Height: later}))
			has(t, "a later height", r, list{}, 0, -1)
			var want []replica.Out
			if kind >= 3 && kind <= 5 {
				want = ask(2, 1)
			}
			told(t, "a tick", r.Tick(), want...)
			told(t, "one more", r.Tick(), want...)
			has(t, "behind ticks", r, list{}, 0, -1)
		}
	}
}

func TestAsk(t *testing.T) { // P19.4: for the height here, behind what the core sends, and not any more when it is there
	r := fresh(t, 4, 2)
	told(t, "a later height", r.Hear(3, state(3, 4)))
	told(t, "one that isn't so late", r.Hear(1, value(1, 2, nil)))
	told(t, "the height 1", r.Tick(), ask(2, 1)...)
	decide(t, r, 4, 2, nil)
	told(t, "the height 2", r.Tick(), ask(2, 2)...)
	x := entry(t, 1, 1, "x")
	one := batch(t, x)
	own := others(offer(2, 0, 0, one), state(2, 2, core.ID(one)))
	submits(t, "it proposes", r, x, own...)
	told(t, "the height 2", r.Tick(), append(own, ask(2, 2)...)...)
	decide(t, r, 4, 2, nil)
	told(t, "the height 3", r.Tick(), ask(2, 3)...)
	decide(t, r, 4, 2, one)
	for range 4 {
		told(t, "the height 4", r.Tick())
	}
	told(t, "a height that it has", r.Hear(3, state(3, 2)), replica.Out{To: 3, Msg: decided(2, 2, nil)})
	told(t, "the height 4", r.Tick())
	for _, n := range append([]int{9, 0}, odd...) { // of no heights it isn't asked
		told(t, "no height", r.Hear(3, state(3, n)))
	}
	told(t, "the height 4", r.Tick())
}

func TestDecided(t *testing.T) { // P19.4: when more than may be faulty say the same
	x, y := batch(t, entry(t, 1, 1, "x")), batch(t, entry(t, 1, 1, "y"))
	type says struct {
		from int
		what []byte
	}
	for _, c := range []struct {
		voters int
		all    []says
		at     int // behind how many of them it is agreed upon; 0: behind none
		what   []byte
	}{
		{4, []says{{1, x}, {2, x}}, 2, x},
		{4, []says{{3, x}, {1, y}, {2, y}}, 3, y},
		{4, []says{{3, x}, {1, y}, {2, nil}}, 0, nil},
		{4, []says{{3, x}, {3, x}, {3, x}}, 0, nil},
		{4, []says{{3, x}, {3, y}, {2, y}}, 0, nil}, // the first one counts
		{4, []says{{3, x}, {3, y}, {2, y}, {1, x}}, 4, x},
		{4, []says{{0, x}, {2, x}, {4, x}, {-1, x}}, 0, nil},
		{4, []says{{2, nil}, {3, []byte{}}}, 2, nil},
		{4, []says{{2, x[:len(x)-1]}, {3, x}, {1, append(x[:len(x):len(x)], 0)}}, 0, nil},
		{7, []says{{1, x}, {6, x}}, 0, nil},
		{7, []says{{1, x}, {6, x}, {3, x}}, 3, x},
		{7, []says{{1, x}, {2, y}, {3, x}, {4, y}, {5, nil}}, 0, nil},
		{7, []says{{1, x}, {2, y}, {3, x}, {4, y}, {5, nil}, {6, y}}, 6, y},
	} {
		r := fresh(t, c.voters, 0)
		for i, s := range c.all {
			r.Hear(s.from, decided(s.from, 1, s.what))
			if (r.Height() > 0) != (c.at > 0 && i+1 >= c.at) {
				t.Errorf("of %d, %v, behind %d: the height %d", c.voters, c.all, i+1, r.Height())
			}
			if r.Round() != -1 {
				t.Error("it is begun by Decided")
			}
		}
		if c.at > 0 {
			told(t, "what was agreed upon", r.Hear(1, api.Msg{Kind: 8, Height: 1}), replica.Out{To: 1, Msg: decided(0, 1, c.what)})
		}
	}
}

func TestDecidedOfOtherHeights(t *testing.T) { // P19.4: each counts at the height here alone
	r := fresh(t, 4, 0)
	x := batch(t, entry(t, 1, 1, "x"))
	for from := 1; from <= 3; from++ {
		for _, height := range append([]int{0, 2, 3, 8, 9}, odd...) {
			told(t, "another height", r.Hear(from, decided(from, height, x)))
		}
	}
	told(t, "a tick", r.Tick()) // it is no message of agreement
	has(t, "other heights", r, list{}, 0, -1)
	for height := 1; height <= 8; height++ { // who said something at one height may say something else at the next one
		told(t, "one says so", r.Hear(height%3+1, decided(1, height, []byte{byte(height)})))
		told(t, "an elder one", r.Hear(1, decided(1, height-1, []byte{byte(height)})))
		told(t, "an elder one", r.Hear(2, decided(2, height-1, []byte{byte(height)})))
		if r.Height() != height-1 {
			t.Fatalf("at the height %d: %d", height, r.Height())
		}
		told(t, "another one says so", r.Hear((height+1)%3+1, decided(2, height, []byte{byte(height)})))
		if r.Height() != height {
			t.Fatalf("at the height %d: %d", height, r.Height())
		}
		told(t, "the third one", r.Hear((height+2)%3+1, decided(3, height, []byte{byte(height)})))
	}
}

func TestDecidedAmongVotes(t *testing.T) { // P19.4: it goes on at the next height, and what was voted at this one counts no more
	x := entry(t, 1, 1, "x")
	one := batch(t, x)
	id := core.ID(one)
	r := fresh(t, 4, 2)
	told(t, "the offer", r.Hear(1, offer(1, 0, 0, one)), others(state(2, 1, id))...)
	told(t, "votes", r.Hear(1, state(1, 1, id, id)))
	told(t, "votes", r.Hear(3, state(3, 1, id)), others(state(2, 1, id, id))...)
	l := list{}.and(x)
	told(t, "it was agreed upon", decide(t, r, 4, 2, one), l.answer(t, 2, 0, 1)...)
	has(t, "the next height", r, l, 0, -1)
	told(t, "the last vote", r.Hear(3, state(3, 1, id, id)), replica.Out{To: 3, Msg: decided(2, 1, one)})
	for range 5 {
		told(t, "a tick", r.Tick())
	}
	for _, from := range []int{1, 3} {
		told(t, "votes for the next height", r.Hear(from, state(from, 2, id, id)))
	}
	has(t, "the next height", r, l, 0, 0)
}

func TestRawMessages(t *testing.T) { // P1: whatever comes
	random := rand.New(rand.NewSource(9))
	numbers := append([]int{0, 1, 2, 3, 4, 5, 7, 8, 9, 11}, odd...)
	draw := func() int { return numbers[random.Intn(len(numbers))] }
	x := batch(t, entry(t, 1, 1, "x"))
	for range 40 {
		voters := []int{1, 4, 4, 7}[random.Intn(4)]
		r := fresh(t, voters, 0)
		for range 100 {
			m := api.Msg{Kind: random.Intn(12), Who: draw(), Height: draw(), Round: draw(), Valid: draw(), Num: draw(), ID: core.ID(x)}
			if random.Intn(2) == 0 {
				m.Height = r.Height() + random.Intn(2)
			}
			m.Data = [][]byte{nil, x, make([]byte, 4097), make([]byte, 1<<17)}[random.Intn(4)]
			for range random.Intn(30) {
				m.IDs = append(m.IDs, []api.ID{zero, none, core.ID(x)}[random.Intn(3)])
			}
			m.List = [][][]byte{nil, {nil}, {x}}[random.Intn(3)]
			height := r.Height()
			r.Hear(random.Intn(9)-1, m)
			r.Linked(draw(), m)
			r.Submit(m.Data)
			if random.Intn(3) == 0 {
				r.Tick()
			}
			if r.Height() < height || r.Height() > 8 {
				t.Fatalf("the height %d", r.Height())
			}
		}
	}
}

func TestABookThatIsWorkedOn(t *testing.T) { // P1: also if somebody applies batches to the book that is embedded
	x := entry(t, 1, 1, "x")
	for _, voters := range []int{1, 4} {
		for applied := range 12 {
			r := fresh(t, voters, 0)
			for range applied {
				r.Apply(batch(t, x))
			}
			for height := range 12 {
				for kind := range 11 {
					for from := range voters {
						r.Hear(from, api.Msg{Kind: kind, Height: height})
						r.Linked(from, api.Msg{Kind: kind, Height: height, Num: 1})
					}
				}
				r.Submit(x)
				r.Submit(entry(t, 2, height+1, "y"))
				r.Tick()
			}
		}
	}
}
