package round_test

import (
	"fmt"
	"math"
	"math/rand"
	"slices"
	"testing"

	"scrivener/api"
	"scrivener/count"
	"scrivener/round"
)

// plain is a round as plain as may be: the chapter's sentences, one by one.
type plain struct {
	voters, me, height   int
	round, step          int
	fresh                api.ID
	lockRound, bestRound int
	lock, best           api.ID
	known                map[api.ID]bool
	offers               map[int]round.Offer
	timers               map[[2]int]bool
	votes                map[[3]int]api.ID
	acts                 []round.Act
}

// zero is no thing.
var zero api.ID

func newPlain(voters, me, height int) *plain {
	return &plain{voters: voters, me: me, height: height, round: -1, step: round.Over,
		known: map[api.ID]bool{}, offers: map[int]round.Offer{}, timers: map[[2]int]bool{}, votes: map[[3]int]api.ID{}}
}

func (p *plain) faults() int { return (p.voters - 1) / 3 }

func (p *plain) need() int { return 2*p.faults() + 1 }

// put: layer 13's Put.
func (p *plain) put(n, kind, who int, id api.ID) bool {
	at := [3]int{n, kind, who}
	if n < 0 || n > 11 || kind < 0 || kind > 1 || who < 0 || who >= p.voters || id == zero || p.votes[at] != zero {
		return false
	}
	p.votes[at] = id
	return true
}

// number: how many votes of a kind in a round are for one of some things; of none: for anything.
func (p *plain) number(n, kind int, ids ...api.ID) int {
	sum := 0
	for at, id := range p.votes {
		if at[0] == n && at[1] == kind && (len(ids) == 0 || slices.Contains(ids, id)) {
			sum++
		}
	}
	return sum
}

// sure: what is sure in a round; the zero ID: nothing.
func (p *plain) sure(n, kind int) api.ID {
	for _, id := range p.votes {
		if id != count.Nil() && p.number(n, kind, id) >= p.need() {
			return id
		}
	}
	return zero
}

func (p *plain) begins(n int) {
	if n < 0 || n > 11 {
		p.step = round.Over
		return
	}
	p.round, p.step = n, round.Propose
	if p.me != (p.height+n)%p.voters {
		p.sets(round.Propose)
		return
	}
	if p.offers[n].There {
		return
	}
	valid, id := 0, p.fresh
	if p.bestRound > 0 {
		valid, id = p.bestRound, p.best
	}
	if id == zero {
		p.sets(round.Propose)
		return
	}
	p.offers[n] = round.Offer{There: true, Valid: valid, ID: id}
	p.acts = append(p.acts, round.Act{Kind: round.ASend, Round: n, Valid: valid, ID: id})
}

func (p *plain) sets(step int) {
	at := [2]int{p.round, step}
	if !p.timers[at] {
		p.timers[at] = true
		p.acts = append(p.acts, round.Act{Kind: round.ATimer, Round: p.round, Num: step})
	}
}

func (p *plain) votesFor(kind int, id api.ID) {
	if p.put(p.round, kind, p.me, id) {
		p.acts = append(p.acts, round.Act{Kind: round.AVote, Round: p.round, Num: kind, ID: id})
	}
	p.step = []int{round.Vote, round.Commit}[kind]
}

func (p *plain) ruleA() bool {
	for n := range 12 {
		if id := p.sure(n, count.Precommit); id != zero && p.known[id] {
			p.step = round.Over
			p.acts = append(p.acts, round.Act{Kind: round.ADone, Round: n, ID: id})
			return true
		}
	}
	return false
}

func (p *plain) ruleB() bool {
	for n := 11; n > p.round; n-- {
		seen := map[int]bool{}
		for at := range p.votes {
			if at[0] == n {
				seen[at[2]] = true
			}
		}
		if len(seen) > p.faults() {
			p.begins(n)
			return true
		}
	}
	return false
}

func (p *plain) ruleC() bool {
	o := p.offers[p.round]
	if p.step != round.Propose || !o.There || !p.known[o.ID] {
		return false
	}
	if o.Valid == 0 {
		if p.lockRound == 0 || p.lock == o.ID {
			p.votesFor(count.Prevote, o.ID)
		} else {
			p.votesFor(count.Prevote, count.Nil())
		}
		return true
	}
	if o.Valid > p.round {
		p.votesFor(count.Prevote, count.Nil())
		return true
	}
	if p.sure(o.Valid-1, count.Prevote) != o.ID {
		return false
	}
	if !(p.lockRound > o.Valid) || p.lock == o.ID {
		p.votesFor(count.Prevote, o.ID)
	} else {
		p.votesFor(count.Prevote, count.Nil())
	}
	return true
}

func (p *plain) ruleD() bool {
	id := p.sure(p.round, count.Prevote)
	if id == zero || !p.known[id] || p.step != round.Vote && p.step != round.Commit || p.bestRound == p.round+1 {
		return false
	}
	p.bestRound, p.best = p.round+1, id
	if p.step == round.Vote {
		p.lockRound, p.lock = p.round+1, id
		p.votesFor(count.Precommit, id)
	}
	return true
}

func (p *plain) ruleE() bool {
	if p.step != round.Vote || p.number(p.round, count.Prevote, count.Nil()) < p.need() {
		return false
	}
	p.votesFor(count.Precommit, count.Nil())
	return true
}

// answer: what is done behind a call, and the acts of all that.
func (p *plain) answer() []round.Act {
	fits := true
	for fits && p.round >= 0 && p.step != round.Over {
		fits = p.ruleA() || p.ruleB() || p.ruleC() || p.ruleD() || p.ruleE()
	}
	if p.round >= 0 && p.step != round.Over {
		if p.step == round.Vote && p.number(p.round, count.Prevote) >= p.need() {
			p.sets(round.Vote)
		}
		if p.number(p.round, count.Precommit) >= p.need() {
			p.sets(round.Commit)
		}
	}
	acts := p.acts
	p.acts = nil
	return acts
}

func (p *plain) Begin(fresh api.ID) []round.Act {
	if p.round < 0 {
		if fresh != zero {
			p.fresh = fresh
		}
		p.begins(0)
	}
	return p.answer()
}

func (p *plain) Fresh(id api.ID) { p.fresh = id }

func (p *plain) Remember(id api.ID) {
	if id != zero && len(p.known) < 32 {
		p.known[id] = true
	}
}

func (p *plain) Know(id api.ID) []round.Act {
	p.Remember(id)
	return p.answer()
}

func (p *plain) Offered(n, valid int, id api.ID) []round.Act {
	if n >= 0 && n <= 11 && !p.offers[n].There && valid >= 0 && valid <= n && id != zero && id != count.Nil() {
		p.offers[n] = round.Offer{There: true, Valid: valid, ID: id}
	}
	return p.answer()
}

func (p *plain) Voted(n, kind, who int, id api.ID) []round.Act {
	if who != p.me {
		p.put(n, kind, who, id)
	}
	return p.answer()
}

func (p *plain) Timeout(n, step int) []round.Act {
	if n == p.round && p.step != round.Over {
		if step == round.Propose && p.step == round.Propose {
			p.votesFor(count.Prevote, count.Nil())
		} else if step == round.Vote && p.step == round.Vote {
			p.votesFor(count.Precommit, count.Nil())
		} else if step == round.Commit {
			p.begins(p.round + 1)
		}
	}
	return p.answer()
}

func (p *plain) Recall(a round.Act) {
	if a.Round < 0 || a.Round > 11 || a.ID == zero {
		return
	}
	if a.Kind == round.ASend && !p.offers[a.Round].There && a.Valid >= 0 && a.Valid <= a.Round {
		p.offers[a.Round] = round.Offer{There: true, Valid: a.Valid, ID: a.ID}
	}
	if a.Kind != round.AVote || !p.put(a.Round, a.Num, p.me, a.ID) || a.Round < p.round {
		return
	}
	p.round, p.step = a.Round, []int{round.Vote, round.Commit}[a.Num]
	if a.Num == count.Precommit && a.ID != count.Nil() {
		p.lockRound, p.bestRound = a.Round+1, a.Round+1
		p.lock, p.best = a.ID, a.ID
	}
}

// tells is what can be called of a round and of a plain one.
type tells interface {
	Begin(api.ID) []round.Act
	Fresh(api.ID)
	Remember(api.ID)
	Know(api.ID) []round.Act
	Offered(n, valid int, id api.ID) []round.Act
	Voted(n, kind, who int, id api.ID) []round.Act
	Timeout(n, step int) []round.Act
	Recall(round.Act)
}

// same: does a round tell what the plain one tells?
func same(t *testing.T, what string, r *round.Round, p *plain) {
	t.Helper()
	if n, step := r.Where(); n != p.round || step != p.step {
		t.Fatalf("%s: Where %d, %d, want %d, %d", what, n, step, p.round, p.step)
	}
	if n, id := r.Lock(); n != p.lockRound || id != p.lock {
		t.Fatalf("%s: Lock %d, %v, want %d, %v", what, n, id[:1], p.lockRound, p.lock[:1])
	}
	if n, id := r.Best(); n != p.bestRound || id != p.best {
		t.Fatalf("%s: Best %d, %v, want %d, %v", what, n, id[:1], p.bestRound, p.best[:1])
	}
	for n := -1; n <= 12; n++ {
		if r.Offer(n) != p.offers[n] {
			t.Fatalf("%s: Offer(%d): %v, want %v", what, n, r.Offer(n), p.offers[n])
		}
		if r.Own(n) != [2]api.ID{p.votes[[3]int{n, 0, p.me}], p.votes[[3]int{n, 1, p.me}]} {
			t.Fatalf("%s: Own(%d): %v", what, n, r.Own(n))
		}
		for kind := range 2 {
			for who := range p.voters {
				if r.Vote(n, kind, who) != p.votes[[3]int{n, kind, who}] {
					t.Fatalf("%s: Vote(%d, %d, %d)", what, n, kind, who)
				}
			}
		}
	}
}

// drawing draws calls for a round and a plain one.
type drawing struct {
	*rand.Rand
	p    *plain
	most api.ID // what is voted for most
}

// id: a thing of few.
func (d drawing) id() api.ID {
	return []api.ID{zero, count.Nil(), {1}, {1}, {2}, {3}, d.most, d.most, d.most, d.most}[d.Intn(10)]
}

// near: a round by which something may come of it, mostly.
func (d drawing) near() int {
	switch d.Intn(12) {
	case 0:
		return d.Intn(12)
	case 1:
		return []int{math.MinInt, -1, 12, math.MaxInt}[d.Intn(4)]
	case 2, 3:
		return d.p.round - 1
	case 4:
		return d.p.round + 1
	}
	return max(d.p.round, 0)
}

// small: a number of few, some of which are none that a call takes.
func (d drawing) small(most int) int {
	if d.Intn(20) == 0 {
		return []int{math.MinInt, -1, most, most + 1, math.MaxInt}[d.Intn(5)]
	}
	return d.Intn(most)
}

// call: one that is drawn, told by words, to be made of both.
func (d drawing) call() (string, func(tells) []round.Act) {
	n, id := d.near(), d.id()
	switch d.Intn(20) {
	case 0:
		return fmt.Sprintf("Begin(%v)", id[:1]), func(x tells) []round.Act { return x.Begin(id) }
	case 1:
		return fmt.Sprintf("Fresh(%v)", id[:1]), func(x tells) []round.Act { x.Fresh(id); return nil }
	case 2:
		return fmt.Sprintf("Remember(%v)", id[:1]), func(x tells) []round.Act { x.Remember(id); return nil }
	case 3:
		return fmt.Sprintf("Know(%v)", id[:1]), func(x tells) []round.Act { return x.Know(id) }
	case 4, 5, 6:
		valid := []int{0, 0, n, n - 1, n + 1, d.p.bestRound, -1}[d.Intn(7)]
		return fmt.Sprintf("Offered(%d, %d, %v)", n, valid, id[:1]), func(x tells) []round.Act { return x.Offered(n, valid, id) }
	case 7, 8:
		step := d.small(4)
		return fmt.Sprintf("Timeout(%d, %d)", n, step), func(x tells) []round.Act { return x.Timeout(n, step) }
	case 9:
		a := round.Act{Kind: d.small(5), Round: n, Num: d.small(2), Valid: d.small(3), ID: id}
		if d.Intn(3) > 0 { // seldom behind Begin
			a.Round = -1
		}
		return fmt.Sprintf("Recall(%v)", a), func(x tells) []round.Act { x.Recall(a); return nil }
	}
	kind, who := d.small(2), d.small(d.p.voters)
	return fmt.Sprintf("Voted(%d, %d, %d, %v)", n, kind, who, id[:1]), func(x tells) []round.Act { return x.Voted(n, kind, who, id) }
}

func TestDrawnCalls(t *testing.T) { // P14.1 to P14.4, P14.6
	for seed := range int64(1500) {
		d := drawing{Rand: rand.New(rand.NewSource(seed)), most: []api.ID{{1}, {2}, count.Nil()}[seed%3]}
		voters := []int{1, 4, 4, 7}[d.Intn(4)]
		me, height := d.Intn(voters), d.Intn(9)
		r, e := round.New(voters, me, height)
		if e != api.OK {
			t.Fatal(e)
		}
		p := newPlain(voters, me, height)
		d.p = p
		told := fmt.Sprintf("seed %d: New(%d, %d, %d)", seed, voters, me, height)
		for range d.Intn(4) {
			a := round.Act{Kind: 1 + d.Intn(2), Round: d.Intn(3), Num: d.Intn(2), Valid: d.Intn(2), ID: d.id()}
			r.Recall(a)
			p.Recall(a)
			told += fmt.Sprintf(" Recall(%v)", a)
		}
		for range 20 + d.Intn(100) {
			words, call := d.call()
			told += " " + words
			got, want := call(r), call(p)
			if !slices.Equal(got, want) {
				t.Fatalf("%s: %v, want %v", told, got, want)
			}
			same(t, told, r, p)
		}
	}
}
