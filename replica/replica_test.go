package replica_test

import (
	"bytes"
	"math"
	"slices"
	"testing"

	"scrivener/api"
	"scrivener/book"
	"scrivener/core"
	"scrivener/journal"
	"scrivener/keys"
	"scrivener/pack"
	"scrivener/replica"
	"scrivener/slab"
)

// odd is numbers that aren't any of a voter, a round or a height.
var odd = []int{math.MinInt, -1, 12, 4711, math.MaxInt}

func TestKinds(t *testing.T) {
	if replica.Decided != 7 || replica.Ask != 8 || replica.Proof != 9 || replica.Link != 10 {
		t.Error("the kinds")
	}
}

func TestOpenOfWrongNumbers(t *testing.T) { // P19.1
	for _, x := range []struct{ voters, me int }{
		{4, 4}, {4, -1}, {1, 1}, {7, 7}, {4, math.MaxInt}, {4, math.MinInt},
		{0, 0}, {-1, 0}, {2, 0}, {3, 0}, {5, 0}, {6, 0}, {10, 0}, {math.MinInt, 0}, {math.MaxInt, 0}, {0, -1},
	} {
		for _, d := range []*slab.Slab{disk(t), torn(t), records(t, []byte("x"))} { // it is the first error
			before := d.Bytes()
			if r, e := replica.Open(x.voters, x.me, seed(0), d); r != nil || e != api.ErrRange {
				t.Errorf("Open(%d, %d): %v", x.voters, x.me, e)
			}
			if !bytes.Equal(d.Bytes(), before) {
				t.Errorf("Open(%d, %d) worked on the slab", x.voters, x.me)
			}
		}
	}
}

// records: a slab on which there are these.
func records(t *testing.T, list ...[]byte) *slab.Slab {
	t.Helper()
	d := disk(t)
	j, e := journal.Open(d)
	if e != api.OK {
		t.Fatal(e)
	}
	for _, b := range list {
		if e := j.Write(b); e != api.OK {
			t.Fatal(e)
		}
	}
	return d
}

// torn: a slab with a record that isn't a replica's, and one that was spoilt.
func torn(t *testing.T) *slab.Slab {
	t.Helper()
	d := records(t, []byte("x"), []byte("y"))
	size, _ := d.Size()
	if e := d.Spoil(size-1, 'z'); e != api.OK {
		t.Fatal(e)
	}
	return d
}

func TestOpenOfASpoiltSlab(t *testing.T) { // P19.1: layer 10's errors are ahead of ErrForm
	if r, e := replica.Open(4, 1, seed(1), torn(t)); r != nil || e != api.ErrTorn {
		t.Errorf("of a torn one: %v", e)
	}
	d := records(t, []byte("x"))
	d.Append([]byte("the beginning of a record"))
	d.Break(0)
	if r, e := replica.Open(4, 1, seed(1), d); r != nil || e != api.ErrDown {
		t.Errorf("without power to Cut: %v", e)
	}
}

func TestOpenOfWhatIsNoReplicas(t *testing.T) { // P19.1
	write := func(m api.Msg) []byte {
		b, e := pack.Write(m)
		if e != api.OK {
			t.Fatal(e)
		}
		return b
	}
	good := [][]byte{write(state(1, 1, none)), write(offer(1, 0, 0, []byte("y"))), write(value(1, 1, []byte("y"))), write(decided(1, 1, []byte("y"))), write(state(1, 2, none))}
	opened(t, 4, 1, records(t, good...))
	bad := [][]byte{
		nil, []byte("x"), {0}, {32}, {4, 9}, bytes.Repeat([]byte{7}, 5000),
		entry(t, 1, 1, "x"), batch(t, entry(t, 1, 1, "x")), good[0][:len(good[0])-1],
		write(state(1, 1, none)), write(state(1, 3, none)), write(state(1, 0, none)), // of other heights
		write(offer(1, 1, 0, []byte("z"))), write(value(1, 1, []byte("z"))), write(decided(1, 1, []byte("z"))), write(decided(1, 3, []byte("z"))),
	}
	for kind := 1; kind <= 31; kind++ {
		if kind != 3 && kind != 4 && kind != 5 && kind != 7 {
			bad = append(bad, write(api.Msg{Kind: kind, Who: 1, Height: 2}))
		}
	}
	for i, b := range bad {
		if r, e := replica.Open(4, 1, seed(1), records(t, append(slices.Clip(good), b)...)); r != nil || e != api.ErrForm {
			t.Errorf("%d: Open: %v", i, e)
		}
		if r, e := replica.Open(4, 1, seed(1), records(t, b, good[0])); i < 9 && (r != nil || e != api.ErrForm) {
			t.Errorf("%d, as the first one: Open: %v", i, e)
		}
	}
	var all [][]byte
	for height := 1; height <= 8; height++ {
		all = append(all, write(decided(1, height, nil)))
	}
	opened(t, 4, 1, records(t, all...))
	for _, b := range [][]byte{write(decided(1, 9, nil)), write(state(1, 9, none))} { // there is no such height
		if r, e := replica.Open(4, 1, seed(1), records(t, append(slices.Clip(all), b)...)); r != nil || e != api.ErrForm {
			t.Errorf("the height 9: Open: %v", e)
		}
	}
}

func TestANewOne(t *testing.T) { // P19.1
	for _, voters := range []int{1, 4, 7} {
		for me := range voters {
			r := fresh(t, voters, me)
			has(t, "a new one", r, list{}, 0, -1)
			if r.Public() != keys.New(seed(me)).Public() || r.Halted() {
				t.Error("a new one: its key, or halted")
			}
			for range 20 {
				told(t, "a tick", r.Tick())
			}
			has(t, "a new one, behind ticks", r, list{}, 0, -1)
		}
	}
}

func TestAlone(t *testing.T) { // P19.2, P19.3: the height 8 is the last one
	d := disk(t)
	r := opened(t, 1, 0, d)
	var l list
	for num := 1; num <= 8; num++ {
		x := entry(t, num%3, num, "x")
		l = l.and(x)
		submits(t, "an entry", r, x, l.answer(t, 0, num-1, num)...)
		has(t, "an entry", r, l, 0, -1)
		told(t, "a tick", r.Tick())
		r = opened(t, 1, 0, d)
		has(t, "opened again", r, l, 0, -1)
		for at := range num { // the first height that has it
			submits(t, "once more", r, l.entries[at], l.answer(t, 0, at, at+1)...)
		}
		has(t, "once more", r, l, 0, -1)
	}
	if l, e := r.Submit(entry(t, 9, 1, "")); e != api.ErrFull || len(l) > 0 {
		t.Errorf("there is no height more: %v", e)
	}
	if _, e := r.Submit([]byte("x")); e != api.ErrTag {
		t.Errorf("no entry, and no height more: %v", e)
	}
	has(t, "at the end", r, l, 0, -1)
}

func TestSubmitOfWhatIsNoEntry(t *testing.T) { // P19.2: layer 11's Check's error, and nothing
	long, _ := pack.Write(api.Msg{Kind: 1, Num: 1, Data: make([]byte, 257)})
	odd, _ := pack.Write(api.Msg{Kind: 1, Num: 1, Height: 1})
	who, _ := pack.Write(api.Msg{Kind: 1, Num: 1, Who: 16})
	for _, me := range []int{0, 1} {
		r := fresh(t, 4, me)
		for _, b := range [][]byte{nil, {}, {0}, []byte("x"), {1}, {1, 5, 0, 0}, long, odd, who, batch(t, entry(t, 1, 1, "x"))} {
			_, want := book.Check(b)
			if l, e := r.Submit(b); want == api.OK || e != want || len(l) > 0 {
				t.Errorf("Submit(%v): %v, want %v", b, e, want)
			}
		}
		has(t, "behind no entries", r, list{}, 0, -1)
	}
}

func TestSubmitOfTooMany(t *testing.T) { // P19.2: layer 12's errors, but ErrTwice
	r := fresh(t, 4, 0)
	for who := range 8 {
		for num := 1; num <= 3; num++ {
			submits(t, "an entry", r, entry(t, who, num, "x"))
			submits(t, "the same once more", r, entry(t, who, num, "x"))
			submits(t, "another one of that number", r, entry(t, who, num, "y"))
			has(t, "some", r, list{}, 3*who+num, 0)
		}
		if l, e := r.Submit(entry(t, who, 4, "x")); e != api.ErrQuota || len(l) > 0 {
			t.Errorf("the fourth one: %v", e)
		}
	}
	if l, e := r.Submit(entry(t, 9, 1, "x")); e != api.ErrFull || len(l) > 0 {
		t.Errorf("too many: %v", e)
	}
	submits(t, "one that waits", r, entry(t, 7, 3, "x"))
	has(t, "all", r, list{}, 24, 0)
}

func TestSubmitByItsOrder(t *testing.T) { // P19.2: what the book has is answered, and where no height is more, nothing else is asked
	r := fresh(t, 4, 0)
	for num := 1; num <= 3; num++ {
		submits(t, "one that waits", r, entry(t, 1, num, "x"))
	}
	x := entry(t, 2, 1, "x")
	l := list{}.and(x)
	decide(t, r, 4, 0, batch(t, x))
	for r.Height() < 8 {
		decide(t, r, 4, 0, []byte("nothing"))
		l = l.and()
	}
	has(t, "at the end", r, l, 3, -1)
	for _, b := range [][]byte{entry(t, 1, 4, "x"), entry(t, 1, 1, "x"), entry(t, 3, 1, "x")} { // too many of one client; one that waits; another one
		if l, e := r.Submit(b); e != api.ErrFull || len(l) > 0 {
			t.Errorf("at the end: %v", e)
		}
	}
	submits(t, "what the book has", r, x, l.answer(t, 0, 0, 1)...)
	submits(t, "another one of that Who and Num", r, entry(t, 2, 1, "another"), l.answer(t, 0, 0, 1)...)
	told(t, "a tick at the end", r.Tick())
	has(t, "at the end", r, l, 3, -1)
}

func TestSubmitProposes(t *testing.T) { // P19.2: by who proposes in the first round of the height 1
	x, y := entry(t, 1, 1, "x"), entry(t, 2, 1, "y")
	one := batch(t, x)
	for _, voters := range []int{4, 7} {
		for me := range voters {
			r := fresh(t, voters, me)
			if me != 1 {
				submits(t, "who doesn't propose", r, x)
				has(t, "who doesn't propose", r, list{}, 1, 0)
				continue
			}
			submits(t, "who proposes", r, x, others(offer(1, 0, 0, one), state(1, 1, core.ID(one)))...)
			submits(t, "another one", r, y)
			submits(t, "the first one", r, x)
			has(t, "who proposes", r, list{}, 2, 0)
			told(t, "a tick", r.Tick(), others(offer(1, 0, 0, one), state(1, 1, core.ID(one)))...)
		}
	}
}

func TestSubmitSuggestsAllThatWaits(t *testing.T) { // P19.2: the first eight, also where the round began without any
	r := fresh(t, 4, 2) // proposes in the round 1
	told(t, "it is begun", r.Hear(1, state(1, 1)))
	has(t, "it is begun", r, list{}, 0, 0)
	var all [][]byte
	for i := range 10 {
		x := entry(t, i, 1, "x")
		all = append(all, x)
		submits(t, "an entry", r, x)
	}
	told(t, "one is in the round 1", r.Hear(1, state(1, 1, zero, zero, none)))
	want := batch(t, all[:8]...)
	told(t, "and another one", r.Hear(3, state(3, 1, zero, zero, none)), others(offer(1, 1, 0, want), state(2, 1, zero, zero, core.ID(want)))...)
	has(t, "it proposes", r, list{}, 10, 1)
}

func TestAnswers(t *testing.T) { // P19.3: of entries that are new, in the book's order, and then what waits
	for _, voters := range []int{4, 7} {
		r := fresh(t, voters, 2) // proposes in the first round of the height 2
		var x [][]byte
		for i := range 11 {
			x = append(x, entry(t, i, 1, "x"))
			submits(t, "an entry", r, x[i])
		}
		has(t, "they wait", r, list{}, 11, 0)

		l := list{}.and(x[3], x[1])
		var want []replica.Out
		want = append(want, l.answer(t, 2, 0, 1)...)
		want = append(want, l.answer(t, 2, 1, 1)...)
		next := batch(t, x[0], x[2], x[4], x[5], x[6], x[7], x[8], x[9])
		want = append(want, others(offer(2, 0, 0, next), state(2, 2, core.ID(next)))...)
		told(t, "the height 1", decide(t, r, voters, 2, batch(t, x[3], x[1], x[3], []byte("no entry"))), want...)
		has(t, "the height 1", r, l, 9, 0)

		mine, other := entry(t, 12, 7, "of nobody here"), entry(t, 3, 1, "of a number that is there")
		l = l.and(x[10], mine, x[0])
		want = nil
		for at := 2; at < 5; at++ {
			want = append(want, l.answer(t, 2, at, 2)...)
		}
		told(t, "the height 2", decide(t, r, voters, 2, batch(t, x[1], x[10], other, mine, x[0])), want...)
		has(t, "the height 2", r, l, 7, 0)

		told(t, "the height 3", decide(t, r, voters, 2, []byte("no batch"))) // another one proposes at the next one
		l = l.and()
		has(t, "the height 3", r, l, 7, 0)

		rest := [][]byte{x[2], x[4], x[5], x[6], x[7], x[8], x[9]}
		l = l.and(rest...)
		want = nil
		for i := range rest {
			want = append(want, l.answer(t, 2, 5+i, 4)...)
		}
		told(t, "the height 4", decide(t, r, voters, 2, batch(t, rest...)), want...)
		has(t, "the height 4", r, l, 0, -1)
		told(t, "the height 5", decide(t, r, voters, 2, batch(t, rest...))) // nothing of it is new
		l = l.and()
		has(t, "the height 5", r, l, 0, -1)
		for at, height := range map[int]int{0: 1, 1: 1, 2: 2, 4: 2, 5: 4, 11: 4} {
			submits(t, "what the book has", r, l.entries[at], l.answer(t, 2, at, height)...)
		}
	}
}

func TestAgreementByVotes(t *testing.T) { // P19.3: what the core sent stands ahead of the answers
	for _, me := range []int{0, 2, 3} {
		x := entry(t, 5, 1, "x")
		b := batch(t, x)
		l := list{}.and(x)
		id := core.ID(b)
		r := fresh(t, 4, me)
		told(t, "the offer", r.Hear(1, offer(1, 0, 0, b)), others(state(me, 1, id))...)
		told(t, "a vote", r.Hear(1, state(1, 1, id)))
		who := (me + 2) % 4
		if who == 1 {
			who = (me + 1) % 4
		}
		told(t, "the third vote", r.Hear(who, state(who, 1, id)), others(state(me, 1, id, id))...)
		told(t, "a late one", r.Hear(1, state(1, 1, id, id)))
		has(t, "ahead of the last one", r, list{}, 0, 0)
		told(t, "the third late one", r.Hear(who, state(who, 1, id, id)), l.answer(t, me, 0, 1)...)
		has(t, "the last one", r, l, 0, -1)

		r = fresh(t, 4, me) // all votes of the others come ahead of the offer
		told(t, "votes", r.Hear(1, state(1, 1, id, id)))
		told(t, "votes", r.Hear(who, state(who, 1, id, id)))
		told(t, "the offer", r.Hear(1, offer(1, 0, 0, b)), append(others(state(me, 1, id, id)), l.answer(t, me, 0, 1)...)...)
		has(t, "at once", r, l, 0, -1)
	}
}

func TestLinked(t *testing.T) { // P19.6
	r := fresh(t, 4, 3)
	var l list
	num := 0
	for _, more := range []int{0, 0, 2, 3, 0, 1} {
		var x [][]byte
		for range more {
			num++
			x = append(x, entry(t, 1, num, "x"))
		}
		decide(t, r, 4, 3, batch(t, x...))
		l = l.and(x...)
	}
	for _, who := range []int{0, 7, 15, math.MaxInt, -3} {
		for first := -1; first <= 9; first++ {
			for second := -1; second <= 9; second++ {
				m := api.Msg{Kind: 10, Who: 9, Height: second, Num: first, IDs: []api.ID{{1}}, Data: []byte("x")}
				var want []replica.Out
				if first >= 3 && first <= 6 && second <= 6 && second >= 3 && l.sizes[first-1] <= l.sizes[second-1] {
					ids := link(l.leaves(second), l.sizes[first-1], true)
					want = []replica.Out{{Client: true, To: who, Msg: api.Msg{Kind: 10, Who: 3, Height: second, Num: first, IDs: ids}}}
				}
				told(t, "Linked", r.Linked(who, m), want...)
			}
		}
	}
	for kind := -1; kind <= 32; kind++ {
		if kind != 10 {
			told(t, "Linked of another kind", r.Linked(1, api.Msg{Kind: kind, Height: 6, Num: 3}))
		}
	}
	for _, n := range odd {
		told(t, "Linked", r.Linked(1, api.Msg{Kind: 10, Height: n, Num: 3}))
		told(t, "Linked", r.Linked(1, api.Msg{Kind: 10, Height: 6, Num: n}))
	}
}

func TestNothingIsShared(t *testing.T) { // P2: what is handed in is neither changed nor kept, and what is answered is new
	r := fresh(t, 4, 1)
	x := entry(t, 1, 1, "x")
	b := slices.Clone(x)
	first, _ := r.Submit(b)
	if !bytes.Equal(b, x) {
		t.Error("Submit changed it")
	}
	scribble(b)
	one := batch(t, x)
	want := others(offer(1, 0, 0, one), state(1, 1, core.ID(one)))
	told(t, "Submit", first, want...)
	spoil(first)
	told(t, "Tick", r.Tick(), want...)

	data := slices.Clone(one)
	told(t, "one says so", r.Hear(0, decided(0, 1, data)))
	scribble(data)
	data = slices.Clone(one)
	l := list{}.and(x)
	answer := l.answer(t, 1, 0, 1)
	got := r.Hear(2, decided(2, 1, data))
	if !bytes.Equal(data, one) {
		t.Error("Hear changed it")
	}
	scribble(data)
	told(t, "another one says so", got, answer...)
	spoil(got)
	for range 2 {
		got, _ = r.Submit(x)
		told(t, "once more", got, answer...)
		spoil(got)
		got = r.Hear(3, api.Msg{Kind: 8, Height: 1})
		told(t, "asked", got, replica.Out{To: 3, Msg: decided(1, 1, one)})
		spoil(got)
	}

	y := entry(t, 1, 2, "y")
	decide(t, r, 4, 1, batch(t, y))
	l = l.and(y)
	for range 2 {
		got = r.Linked(4, api.Msg{Kind: 10, Height: 2, Num: 1})
		told(t, "Linked", got, replica.Out{Client: true, To: 4, Msg: api.Msg{Kind: 10, Who: 1, Height: 2, Num: 1, IDs: []api.ID{leaf(y)}}})
		spoil(got)
	}
	has(t, "in the end", r, l, 0, -1)
}

// scribble: other bytes stand there, in the spare room too.
func scribble(b []byte) {
	b = b[:cap(b)]
	for i := range b {
		b[i] ^= 0x55
	}
}

// spoil: other bytes stand in what was answered.
func spoil(list []replica.Out) {
	list = list[:cap(list)]
	for i := range list {
		scribble(list[i].Msg.Data)
		ids := list[i].Msg.IDs[:cap(list[i].Msg.IDs)]
		for k := range ids {
			scribble(ids[k][:])
		}
		list[i] = replica.Out{}
	}
}
