package replica_test

import (
	"testing"

	"scrivener/api"
	"scrivener/core"
	"scrivener/replica"
	"scrivener/slab"
)

// again: opened behind a crash, in which so many bytes that weren't sure stay.
func again(t *testing.T, voters, me int, d *slab.Slab, keep int) *replica.Replica {
	t.Helper()
	d.Crash(keep)
	return opened(t, voters, me, d)
}

// silent: does one say nothing any more, and keep nothing?
func silent(t *testing.T, what string, r *replica.Replica, d *slab.Slab, x []byte) {
	t.Helper()
	if !r.Halted() {
		t.Errorf("%s: it isn't halted", what)
	}
	height, round, waiting, size := r.Height(), r.Round(), r.Waiting(), len(d.Bytes())
	for _, b := range [][]byte{x, nil, []byte("no entry")} { // it is the first error
		if l, e := r.Submit(b); e != api.ErrDown || len(l) > 0 {
			t.Errorf("%s: Submit: %v", what, e)
		}
	}
	for h := 1; h <= 8; h++ {
		for kind := 1; kind <= 10; kind++ {
			for from := range 4 {
				told(t, what, r.Hear(from, api.Msg{Kind: kind, Height: h}))
			}
		}
		told(t, what, r.Linked(1, api.Msg{Kind: 10, Height: h, Num: h}))
	}
	for range 5 {
		told(t, what, r.Tick())
	}
	if r.Height() != height || r.Round() != round || r.Waiting() != waiting || len(d.Bytes()) != size {
		t.Errorf("%s: something became otherwise", what)
	}
}

func TestAloneWithoutPower(t *testing.T) { // P19.5: behind each step, and with any of the bytes that aren't sure
	x, y := entry(t, 1, 1, "x"), entry(t, 1, 2, "y")
	one, two := list{}.and(x), list{}.and(x).and(y)
	for steps := 0; ; steps++ {
		before, after := false, false
		for _, keep := range []int{-1, 0, 1, 34, 35, 36, 60, 100, 140, 1 << 20} {
			d := disk(t)
			r := opened(t, 1, 0, d)
			submits(t, "the first one", r, x, one.answer(t, 0, 0, 1)...)
			d.Break(steps)
			got, e := r.Submit(y)
			if e != api.OK {
				t.Fatalf("behind %d steps: %v", steps, e)
			}
			if !r.Halted() {
				told(t, "the second one", got, two.answer(t, 0, 1, 2)...)
				if steps < 2 || keep >= 0 {
					t.Errorf("with power for %d steps it kept it", steps)
				}
				return
			}
			told(t, "it can't be kept", got)
			has(t, "it can't be kept", r, one, 1, r.Round())
			silent(t, "it can't be kept", r, d, x)

			r = again(t, 1, 0, d, keep)
			if r.Height() == 1 {
				before = true
				has(t, "behind the crash", r, one, 0, r.Round())
				submits(t, "the first one", r, x, one.answer(t, 0, 0, 1)...)
				submits(t, "the second one", r, y, two.answer(t, 0, 1, 2)...)
			} else {
				after = true
				submits(t, "the second one", r, y, two.answer(t, 0, 1, 2)...)
			}
			has(t, "in the end", r, two, 0, -1)
			r = again(t, 1, 0, d, 0)
			has(t, "once more", r, two, 0, -1)
		}
		if !before || after && steps%2 == 0 {
			t.Errorf("behind %d steps: nothing was as before (%v), or a record that isn't there was (%v)", steps, before, after)
		}
	}
}

func TestAloneGoesOnBehindACrash(t *testing.T) { // P19.5: what was voted is agreed upon, and then what came since
	x, y := entry(t, 1, 1, "x"), entry(t, 2, 1, "y")
	l := list{}.and(x).and(y)
	for _, tick := range []bool{false, true} {
		voted := 0
		for steps := 0; steps < 20; steps++ {
			d := disk(t)
			r := opened(t, 1, 0, d)
			d.Break(steps)
			r.Submit(x)
			if !r.Halted() {
				break
			}
			r = again(t, 1, 0, d, 0)
			has(t, "behind the crash", r, list{}, 0, r.Round())
			if r.Round() < 0 {
				continue
			}
			voted++
			if tick {
				told(t, "a tick", r.Tick(), l.answer(t, 0, 0, 1)...)
				submits(t, "another one", r, y, l.answer(t, 0, 1, 2)...)
			} else {
				submits(t, "another one", r, y, append(l.answer(t, 0, 0, 1), l.answer(t, 0, 1, 2)...)...)
			}
			has(t, "in the end", r, l, 0, -1)
		}
		if voted == 0 {
			t.Error("there was no crash between the votes and the batch")
		}
	}
}

func TestTheSlabIsFull(t *testing.T) { // P19.5: layer 9's other error
	for room := range 400 {
		d, e := slab.New(room)
		if e != api.OK {
			t.Fatal(e)
		}
		r := opened(t, 1, 0, d)
		x := entry(t, 1, 1, "x")
		r.Submit(x)
		if !r.Halted() {
			if room == 0 || r.Size() != 1 {
				t.Errorf("with room for %d it was kept", room)
			}
			return
		}
		silent(t, "no room", r, d, x)
		r = again(t, 1, 0, d, 0)
		has(t, "behind the crash", r, list{}, 0, r.Round())
	}
	t.Error("there was no room")
}

func TestABatchThatCannotBeKept(t *testing.T) { // P19.5: also where votes could be
	for _, begun := range []bool{false, true} {
		for _, size := range []int{5000, 1 << 17, 1<<17 + 1, 1 << 19} {
			d, _ := slab.New(4000)
			r := opened(t, 4, 0, d)
			if begun {
				told(t, "a message", r.Hear(3, state(3, 1)))
			}
			long := make([]byte, size)
			told(t, "one says so", r.Hear(1, decided(1, 1, long)))
			told(t, "another one says so", r.Hear(2, decided(2, 1, long)))
			silent(t, "it can't be kept", r, d, entry(t, 1, 1, "x"))
			if r.Height() != 0 {
				t.Errorf("the height %d", r.Height())
			}
			r = again(t, 4, 0, d, 0)
			has(t, "behind the crash", r, list{}, 0, -1)
		}
	}
}

func TestHaltedByEachCall(t *testing.T) { // P19.5: by Submit, by Hear and by Tick
	x := entry(t, 1, 1, "x")
	one := batch(t, x)
	for name, call := range map[string]func(r *replica.Replica) []replica.Out{
		"Submit": func(r *replica.Replica) []replica.Out { l, _ := r.Submit(x); return l },
		"a vote": func(r *replica.Replica) []replica.Out { return r.Hear(2, offer(1, 1, 0, one)) },
		"Decided": func(r *replica.Replica) []replica.Out {
			r.Hear(2, decided(2, 1, one))
			return r.Hear(3, decided(3, 1, one))
		},
		"Tick": func(r *replica.Replica) []replica.Out { return r.Tick() },
	} {
		d := disk(t)
		r := opened(t, 4, 1, d)
		if name != "Submit" { // it is in the round 1, where it doesn't propose
			told(t, "a vote", r.Hear(2, state(2, 1, zero, zero, none)))
			told(t, "a vote", r.Hear(3, state(3, 1, zero, zero, none)))
			told(t, "a later height", r.Hear(0, state(0, 2)))
			for range 4 {
				told(t, "a tick", r.Tick(), ask(1, 1)...)
			}
		}
		d.Break(0)
		told(t, name, call(r))
		silent(t, name, r, d, x)
		if r.Height() != 0 {
			t.Errorf("%s: the height %d", name, r.Height())
		}
	}
}

func TestHaltedTellsNothingOfTheCall(t *testing.T) { // P19.5: also what was kept in it ahead of what couldn't be
	x, y := entry(t, 1, 1, "x"), entry(t, 2, 1, "y")
	one := batch(t, x)
	id := core.ID(one)
	for name, call := range map[string]func(r *replica.Replica, last bool) []replica.Out{
		"Hear": func(r *replica.Replica, last bool) []replica.Out { // votes, what was agreed upon, and an offer at the next height
			if !last {
				r.Submit(y)
				r.Hear(1, state(1, 1, id, id))
				return r.Hear(3, state(3, 1, id, id))
			}
			return r.Hear(1, offer(1, 0, 0, one))
		},
		"Submit": func(r *replica.Replica, last bool) []replica.Out { // it knows what was agreed upon by what it is handed
			if !last {
				for _, m := range []api.Msg{state(0, 1, id, id), state(1, 1, id, id), state(3, 1, id)} {
					r.Hear(m.Who, m)
				}
				return append(append(r.Tick(), r.Tick()...), r.Tick()[2:]...) // and votes for nothing
			}
			l, _ := r.Submit(x)
			return l
		},
		"Tick": func(r *replica.Replica, last bool) []replica.Out { // a vote, and the offer of the round
			if !last {
				r.Hear(3, state(3, 2))
				r.Submit(y)
				r.Tick()
				return r.Tick()[1:] // it asks
			}
			return r.Tick()
		},
	} {
		for steps := 0; ; steps++ {
			d := disk(t)
			r := opened(t, 4, 2, d)
			told(t, name+": ahead of it", call(r, false))
			d.Break(steps)
			got := call(r, true)
			if !r.Halted() {
				if steps == 0 || len(got) == 0 {
					t.Errorf("%s: nothing was tried", name)
				}
				break
			}
			told(t, name+": halted", got)
			silent(t, name+": halted", r, d, y)
		}
	}
}

func TestVotesBehindACrash(t *testing.T) { // P19.5: whatever comes then, in each round
	x, y := batch(t, entry(t, 1, 1, "x")), batch(t, entry(t, 2, 1, "y"))
	for round := range 12 {
		me := (round + 3) % 4 // who doesn't propose there
		a, b := (me+1)%4, (me+2)%4
		proposer := (1 + round) % 4
		until := func(ids ...api.ID) []api.ID { return append(make([]api.ID, 2*round), ids...) }
		d := disk(t)
		r := opened(t, 4, me, d)
		r.Hear(a, state(a, 1, until(none)...))
		r.Hear(b, state(b, 1, until(none)...))
		told(t, "the early vote", r.Hear(proposer, offer(1, round, 0, x)), others(state(me, 1, until(core.ID(x))...))...)
		r = again(t, 4, me, d, 0)
		has(t, "behind the crash", r, list{}, 0, round)
		for _, m := range []api.Msg{state(a, 1, until(none)...), state(b, 1, until(none)...), offer(1, round, 0, y)} {
			told(t, "another offer", r.Hear(m.Who, m))
		}
		c := 6 - me - a - b
		told(t, "the late vote", r.Hear(c, state(c, 1, until(none)...)), others(state(me, 1, until(core.ID(x), none)...))...)
		r = again(t, 4, me, d, 0)
		for _, from := range []int{a, b, c} {
			told(t, "other votes", r.Hear(from, state(from, 1, until(core.ID(y))...)))
		}
		told(t, "another offer", r.Hear(proposer, offer(1, round, 0, y)))
		want := others(state(me, 1, until(core.ID(x), none)...))[0]
		for range 60 {
			for _, o := range r.Tick() {
				if o.Msg.Kind == core.State {
					o.Msg.IDs = o.Msg.IDs[:min(len(o.Msg.IDs), 2*round+2)]
					told(t, "a tick", []replica.Out{o}, want)
				}
			}
		}
	}
}

func TestOffersBehindACrash(t *testing.T) { // P19.5: what was offered is, also if another one waits then
	x, y := entry(t, 1, 1, "x"), entry(t, 2, 1, "y")
	one := batch(t, x)
	want := others(offer(1, 0, 0, one), state(1, 1, core.ID(one)))
	d := disk(t)
	r := opened(t, 4, 1, d)
	submits(t, "the first one", r, x, want...)
	for range 3 {
		r = again(t, 4, 1, d, 0)
		has(t, "behind the crash", r, list{}, 0, 0)
		submits(t, "another one", r, y)
		told(t, "a tick", r.Tick(), want...)
		has(t, "behind a tick", r, list{}, 1, 0)
	}

	for steps := range 8 { // the offer may be kept, and the vote not
		d := disk(t)
		r := opened(t, 4, 1, d)
		d.Break(steps)
		if l, _ := r.Submit(x); len(l) > 0 {
			told(t, "the first one", l, want...)
			return
		}
		r = again(t, 4, 1, d, 0)
		l, e := r.Submit(y)
		if steps < 2 {
			two := batch(t, y)
			want := others(offer(1, 0, 0, two), state(1, 1, core.ID(two)))
			told(t, "another one", l, want...)
		} else {
			told(t, "the vote for the first one", l, want[1])
		}
		if e != api.OK {
			t.Error(e)
		}
	}
	t.Error("nothing was told")
}

// flood: the one who proposes in the round 1 of the height 1 hears of many batches, of which few are learnt.
func flood(t *testing.T, r *replica.Replica) {
	t.Helper()
	for i := range 40 {
		data := []byte{byte(i), byte(i)}
		told(t, "a batch that somebody has", r.Hear(3, value(3, 1, append(make([]byte, 4097), data...)))) // it is too long to count
		told(t, "a second one", r.Hear(0, value(0, 1, data)))
		for _, round := range []int{-7, -1, 3, 12, 13, 14, 15, 16} {
			for _, from := range []int{0, 1, 3} {
				if round != 3 || from != 0 {
					told(t, "an offer of no round, or by another one", r.Hear(from, api.Msg{Kind: 3, Height: 1, Round: round, Data: append(data, byte(round), byte(from))}))
				}
			}
		}
		told(t, "a second offer", r.Hear(3, offer(1, 2, 0, data)))
	}
}

// ways is how a batch of one entry is learnt by the one who proposes in the round 1 of the height 1.
func ways(t *testing.T, x []byte) map[string]func(r *replica.Replica) {
	one := batch(t, x)
	hear := func(r *replica.Replica, from int, m api.Msg) {
		m.Data = append([]byte{}, m.Data...)
		r.Hear(from, m)
		scribble(m.Data)
	}
	ticks := func(r *replica.Replica) { // it votes for nothing
		for range 3 {
			r.Tick()
		}
	}
	return map[string]func(r *replica.Replica){
		"the offer": func(r *replica.Replica) { hear(r, 1, offer(1, 0, 0, one)) },
		"an offer that isn't one": func(r *replica.Replica) {
			hear(r, 1, offer(1, 0, 7, one))
			ticks(r)
		},
		"somebody's batch": func(r *replica.Replica) {
			hear(r, 3, value(3, 1, one))
			hear(r, 3, value(3, 1, []byte("it isn't the first one")))
			ticks(r)
		},
		"one's own": func(r *replica.Replica) {
			r.Submit(x)
			ticks(r)
		},
	}
}

func TestBatchesBehindACrash(t *testing.T) { // P19.5: who voted late for a batch can offer it still, however they learnt it, and however many others they heard of
	x := entry(t, 1, 1, "x")
	one := batch(t, x)
	id := core.ID(one)
	for name, learn := range ways(t, x) {
		d := disk(t)
		r := opened(t, 4, 2, d)
		flood(t, r)
		learn(r)
		var last []replica.Out
		for _, from := range []int{0, 1, 3} {
			last = append(last, r.Hear(from, state(from, 1, id))...)
		}
		if len(last) != 1 || len(last[0].Msg.IDs) != 2 || last[0].Msg.IDs[1] != id {
			t.Fatalf("%s: no late vote: %s", name, short(last))
		}
		early := last[0].Msg.IDs[0]
		for range 3 {
			r = again(t, 4, 2, d, 0)
		}
		told(t, name+": a vote", r.Hear(1, state(1, 1, id, none, none)))
		var got []replica.Out
		for _, m := range []api.Msg{state(3, 1, id, none, none), state(0, 1, id)} { // it proposes; and with three early votes it sees what was sure
			got = append(got, r.Hear(m.Who, m)...)
		}
		told(t, name+": it proposes, and votes for it", got, others(offer(1, 1, 1, one), state(2, 1, early, id, id))...)
	}
}

func TestBatchesOfLaterHeights(t *testing.T) { // P19.5: what was said at one height doesn't matter at the next one
	d := disk(t)
	r := opened(t, 4, 2, d)
	for height := 1; height <= 7; height++ {
		x := []byte{byte(height)}
		id := core.ID(x)
		for i := range 8 {
			for _, who := range []int{0, 1, 3} {
				r.Hear(who, value(who, height, []byte{byte(height), byte(i), byte(who)}))
			}
			r.Submit(entry(t, i, 1, "x"))
		}
		r.Hear(height%4, offer(height, 0, 0, x))
		for _, from := range []int{0, 1, 3} {
			r.Hear(from, state(from, height, id))
		}
		if height < 7 {
			decide(t, r, 4, 2, x)
		}
	}
	r = again(t, 4, 2, d, 0)
	id := core.ID([]byte{7})
	told(t, "what it voted for", r.Tick(), others(value(2, 7, []byte{7}), state(2, 7, id, id))...)
}

func TestValuesOfLaterHeights(t *testing.T) { // P19.5: the first one of each counts, at each height
	x := batch(t, entry(t, 1, 1, "x"))
	id := core.ID(x)
	for last := 1; last <= 3; last++ {
		d := disk(t)
		r := opened(t, 4, 0, d)
		for height := 1; height <= last; height++ {
			r.Hear(3, value(3, height, x))
			for range 3 {
				r.Tick() // it votes for nothing
			}
			for _, from := range []int{1, 2, 3} {
				r.Hear(from, state(from, height, id))
			}
			if height < last {
				decide(t, r, 4, 0, nil)
			}
		}
		r = again(t, 4, 0, d, 0)
		told(t, "what it voted for", r.Tick(), others(value(0, last, x), state(0, last, none, id))...)
	}
}

func TestToldAgainBehindACrash(t *testing.T) { // P19.5: just what was told ahead of it, also where one proposes and has no offer
	x := entry(t, 1, 1, "x")
	one := batch(t, x)
	id := core.ID(one)
	d := disk(t)
	r := opened(t, 4, 1, d)
	r.Hear(3, value(3, 1, one))
	for range 3 {
		r.Tick()
	}
	for _, from := range []int{0, 2, 3} {
		r.Hear(from, state(from, 1, id))
	}
	want := others(value(1, 1, one), state(1, 1, none, id))
	told(t, "ahead of it", r.Tick(), want...)
	for range 3 {
		r = again(t, 4, 1, d, 0)
		told(t, "behind the crash", r.Tick(), want...)
	}
}

func TestATickKeepsWhatItTells(t *testing.T) { // P19.5: a batch that was sure too late for a vote
	x := entry(t, 1, 1, "x")
	one := batch(t, x)
	id := core.ID(one)
	d := disk(t)
	r := opened(t, 4, 2, d)
	for _, from := range []int{0, 1, 3} {
		r.Hear(from, state(from, 1, none))
	}
	for range 3 {
		r.Tick()
	}
	told(t, "votes for nothing", r.Tick(), others(state(2, 1, none, none))...)
	r = again(t, 4, 2, d, 0)
	r.Hear(3, value(3, 1, one))
	for _, from := range []int{0, 1, 3} {
		told(t, "early votes", r.Hear(from, state(from, 1, id)))
	}
	told(t, "the batch", r.Tick(), others(value(2, 1, one), state(2, 1, none, none))...)
	r = again(t, 4, 2, d, 0)
	for _, from := range []int{0, 1} {
		told(t, "late votes", r.Hear(from, state(from, 1, id, id)))
	}
	l := list{}.and(x)
	told(t, "the third one", r.Hear(3, state(3, 1, id, id)), l.answer(t, 2, 0, 1)...)
	has(t, "agreed upon", r, l, 0, -1)
}

func TestKeptOnce(t *testing.T) { // the slab doesn't fill up by what is told again and again
	x := entry(t, 1, 1, "x")
	one := batch(t, x)
	id := core.ID(one)
	d := disk(t)
	r := opened(t, 4, 1, d)
	r.Submit(x)
	r.Hear(2, state(2, 1, id))
	r.Hear(3, state(3, 1, id))
	before, _ := d.Size()
	for range 5 {
		for range 50 {
			told(t, "a tick", r.Tick(), others(offer(1, 0, 0, one), value(1, 1, one), state(1, 1, id, id))...)
			r.Submit(x)
			r.Hear(2, state(2, 1, id))
		}
		d.Crash(0)
		r = opened(t, 4, 1, d)
		r.Hear(2, state(2, 1, id))
	}
	if after, sure := d.Size(); after != before || sure != before {
		t.Errorf("it had %d bytes and has %d", before, after)
	}
}

func TestOpenedAsItWas(t *testing.T) { // P19.1: batches of all kinds, by votes and by Decided
	d := disk(t)
	r := opened(t, 4, 2, d)
	var l list
	all := [][]byte{nil, []byte("no batch"), nil, make([]byte, 4096), make([]byte, 1<<17), nil, nil, nil}
	for height := 1; height <= 8; height++ {
		if len(all[height-1]) == 0 && height > 1 {
			x := entry(t, height, 3, "x")
			all[height-1] = batch(t, x)
			l = l.and(x)
		} else {
			l = l.and()
		}
		if height%2 == 0 {
			decide(t, r, 4, 2, all[height-1])
		} else {
			id := core.ID(all[height-1])
			r.Hear(height%4, offer(height, 0, 0, all[height-1]))
			for _, from := range []int{0, 1, 3} {
				r.Hear(from, state(from, height, id, id))
			}
			if r.Height() < height { // who proposes there themselves, or a batch that is too long
				decide(t, r, 4, 2, all[height-1])
			}
		}
		has(t, "agreed upon", r, l, 0, -1)
		r = again(t, 4, 2, d, 0)
		has(t, "behind the crash", r, l, 0, -1)
		for h := 1; h <= height; h++ {
			told(t, "asked", r.Hear(1, api.Msg{Kind: 8, Height: h}), replica.Out{To: 1, Msg: decided(2, h, all[h-1])})
		}
	}
	if r.Public() != opened(t, 4, 2, disk(t)).Public() {
		t.Error("its key")
	}
}
