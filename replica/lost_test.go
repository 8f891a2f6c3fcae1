package replica_test

import (
	"testing"

	"scrivener/api"
	"scrivener/core"
	"scrivener/replica"
	"scrivener/slab"
)

// lateVoter: one of four who has voted late for a batch of the height 1, in the round 0; what it tells once more with each clock.
func lateVoter(t *testing.T, b []byte) (*replica.Replica, []replica.Out) {
	t.Helper()
	id := core.ID(b)
	r := fresh(t, 4, 2)
	told(t, "the offer", r.Hear(1, offer(1, 0, 0, b)), others(state(2, 1, id))...)
	told(t, "a vote", r.Hear(1, state(1, 1, id)))
	told(t, "another one", r.Hear(3, state(3, 1, id)), others(state(2, 1, id, id))...)
	return r, others(value(2, 1, b), state(2, 1, id, id))
}

func TestVotesThatWereLost(t *testing.T) { // P23.5: who agreed alone tells no votes any more, and its Decided is enough with the votes of the others
	x := entry(t, 1, 1, "x")
	b := batch(t, x)
	l := list{}.and(x)
	id := core.ID(b)
	for _, c := range []struct {
		voted, says int
		late        bool // the vote comes first
	}{{3, 1, true}, {3, 1, false}, {1, 3, true}, {1, 3, false}} {
		r, again := lateVoter(t, b)
		vote := func() { told(t, "a late vote", r.Hear(c.voted, state(c.voted, 1, id, id))) }
		decide := func() { told(t, "Decided", r.Hear(c.says, decided(c.says, 1, b))) }
		first, second := vote, decide
		if !c.late {
			first, second = decide, vote
		}
		first()
		for range 30 {
			told(t, "a tick", r.Tick(), again...)
		}
		has(t, "ahead of the other one", r, list{}, 0, 0)
		second()
		has(t, "with both", r, list{}, 0, 0) // P19.4: not by what comes
		told(t, "with the clock", r.Tick(), append(again, l.answer(t, 2, 0, 1)...)...)
		has(t, "with the clock", r, l, 0, -1)
		told(t, "one more tick", r.Tick())
		told(t, "asked", r.Hear(3, state(3, 1, id, id)), replica.Out{To: 3, Msg: decided(2, 1, b)})
	}
}

func TestTooFewVotesWithDecided(t *testing.T) { // P19.4: somebody faulty may say anything
	x, y := batch(t, entry(t, 1, 1, "x")), batch(t, entry(t, 1, 1, "y"))
	id, other := core.ID(x), core.ID(y)
	for _, c := range []struct {
		what string
		list []api.Msg
	}{
		{"of another batch", []api.Msg{state(3, 1, id, id), decided(1, 1, y)}},
		{"of who is counted already", []api.Msg{state(3, 1, id, id), decided(3, 1, x)}},
		{"with nobody's vote", []api.Msg{decided(1, 1, x)}},
		{"with another who says otherwise", []api.Msg{decided(1, 1, x), decided(3, 1, y)}},
		{"with early votes", []api.Msg{state(3, 1, id), state(1, 1, id), decided(1, 1, x)}},
		{"with a late vote for another", []api.Msg{state(3, 1, id, other), decided(1, 1, x)}},
		{"with a late vote for none", []api.Msg{state(3, 1, id, none), decided(1, 1, x)}},
		{"in other rounds", []api.Msg{state(3, 1, id, zero, id, id), decided(1, 1, x)}},
		{"of the first one that counts", []api.Msg{state(3, 1, id, id), decided(1, 1, y), decided(1, 1, x)}},
	} {
		r, _ := lateVoter(t, x)
		for _, m := range c.list {
			r.Hear(m.Who, m)
		}
		for range 60 {
			r.Tick()
			if r.Height() != 0 {
				t.Fatalf("%s: agreed upon", c.what)
			}
		}
	}
}

func TestLostVotesOfSeven(t *testing.T) { // P23.5: five together, of two at most who say so
	x := entry(t, 1, 1, "x")
	b := batch(t, x)
	id := core.ID(b)
	for late := 0; late <= 4; late++ {
		for said := 0; said <= 2; said++ {
			r := fresh(t, 7, 0)
			for who := 1; who <= late; who++ {
				told(t, "a late vote", r.Hear(who, state(who, 1, zero, zero, zero, id)))
			}
			for who := 5; who < 5+said; who++ {
				told(t, "Decided", r.Hear(who, decided(who, 1, b)))
			}
			for range 3 {
				r.Tick()
			}
			if agreed := late+said >= 5; (r.Height() == 1) != agreed {
				t.Errorf("%d late votes, and %d who say so: the height %d", late, said, r.Height())
			}
		}
	}
}

func TestLostVotesArentKept(t *testing.T) { // P19.5: who can't keep what was agreed upon is halted, and has it or not
	b := batch(t, entry(t, 1, 1, "x"))
	id := core.ID(b)
	for steps := range 3 {
		d := disk(t)
		r := opened(t, 4, 0, d)
		r.Hear(3, state(3, 1, id, id))
		r.Hear(2, state(2, 1, id, id))
		r.Hear(1, decided(1, 1, b))
		d.Break(steps)
		l := r.Tick()
		if r.Halted() != (steps < 2) || (len(l) == 0) != (steps < 2) {
			t.Errorf("with power for %d steps: %v, %d told", steps, r.Halted(), len(l))
		}
		d.Crash(0)
		if h := opened(t, 4, 0, d).Height(); h != steps/2 {
			t.Errorf("with power for %d steps: the height %d", steps, h)
		}
	}
}

func TestNothingIsAgreedUponByWhoIsHalted(t *testing.T) { // P19.5: where a vote doesn't fit on the slab any more
	halted, voted := 0, 0
	for room := range 200 {
		d, e := slab.New(room)
		if e != api.OK {
			t.Fatal(e)
		}
		r := opened(t, 4, 0, d)
		b := []byte("x")
		id := core.ID(b)
		r.Hear(2, state(2, 1, zero, id))
		r.Hear(3, state(3, 1, zero, id))
		r.Tick()
		r.Tick()
		r.Hear(1, decided(1, 1, b))
		l := r.Tick() // the timer is over, so that it votes, and what the others say is enough
		switch {
		case r.Halted():
			halted++
			if len(l) > 0 || r.Height() != 0 {
				t.Errorf("with room for %d: told %s, at the height %d", room, short(l), r.Height())
			}
		case r.Height() == 1:
			voted++
		}
	}
	if halted == 0 || voted == 0 {
		t.Errorf("%d halted, %d voted", halted, voted)
	}
}

func TestVotesThatCameEarly(t *testing.T) { // P23.5: who told them at a later height may be down when that is here
	x, y := entry(t, 1, 1, "x"), entry(t, 2, 1, "y")
	one, two := batch(t, x), batch(t, y)
	id := core.ID(two)
	l := list{}.and(x)
	ready := func(early ...api.Msg) *replica.Replica {
		r := fresh(t, 4, 3)
		for _, m := range early {
			told(t, "votes for a later height", r.Hear(m.Who, m))
		}
		decide(t, r, 4, 3, one)
		for range 4 {
			r.Tick() // it isn't begun
		}
		has(t, "the height is here", r, l, 0, -1)
		told(t, "the offer", r.Hear(2, offer(2, 0, 0, two)), others(state(3, 2, id))...)
		return r
	}
	own, sure := others(state(3, 2, id)), others(state(3, 2, id, id), value(3, 2, two), state(3, 2, id, id))
	for _, c := range []struct {
		what  string
		early []api.Msg
		want  []replica.Out
	}{
		{"none", nil, own},
		{"one", []api.Msg{state(0, 2, id)}, own},
		{"two", []api.Msg{state(0, 2, id), state(1, 2, id)}, sure},
		{"two of one", []api.Msg{state(0, 2, id), state(0, 2, id, none)}, own},
		{"fewer behind", []api.Msg{state(0, 2, id), state(0, 2), state(1, 2, id, none), state(1, 2, none)}, sure},
		{"of other heights", []api.Msg{state(0, 3, id), state(1, 2, id), state(2, 1, id)}, append(own, ask(3, 2)...)},
		{"no votes", []api.Msg{{Kind: 5, Who: 0, Height: 2, IDs: []api.ID{id}}, {Kind: 3, Who: 1, Height: 2, IDs: []api.ID{id}}}, own},
	} {
		r := ready(c.early...)
		told(t, c.what, r.Tick(), c.want...)
		has(t, c.what, r, l, 0, 0)
	}
	last := append(make([]api.ID, 23), id)
	r := ready(state(0, 2, last...), state(1, 2, append(last, id, id)...))
	r.Tick()
	has(t, "in the last round", r, l, 0, 11)
	r = ready(state(0, 2, id, id), state(1, 2, id, id))
	told(t, "late ones", r.Tick(), append(sure, l.and(y).answer(t, 3, 1, 2)...)...)
	has(t, "late ones", r, l.and(y), 0, -1)
}

func TestEarlyVotesAreApart(t *testing.T) { // P2
	id := core.ID(batch(t, entry(t, 2, 1, "y")))
	votes := make([]api.ID, 40) // more than count
	votes[0], votes[39] = id, id
	r := fresh(t, 4, 3)
	told(t, "votes for a later height", r.Hear(0, state(0, 2, votes...)))
	mine := []api.ID{id}
	r.Hear(1, state(1, 2, mine...))
	if votes[0] != id || votes[39] != id || mine[0] != id {
		t.Error("Hear changed them")
	}
	clear(votes)
	clear(mine)
	decide(t, r, 4, 3, nil)
	r.Hear(2, offer(2, 0, 0, batch(t, entry(t, 2, 1, "y"))))
	if l := r.Tick(); len(l) != 3 {
		t.Errorf("told %s", short(l))
	}
}
