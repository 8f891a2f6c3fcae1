package round_test

import (
	"math/rand"
	"testing"

	"scrivener/api"
	"scrivener/round"
)

// keeper is a voter who isn't faulty, with what outlives a crash.
type keeper struct {
	r      *round.Round
	wants  api.ID
	known  []api.ID
	said   []round.Act
	alarms []round.Act
}

// letter is an act that somebody is told of.
type letter struct {
	from, to int
	act      round.Act
}

// play is some who agree, of whom some are faulty, by letters that come in any order, more than once, or never.
type play struct {
	*rand.Rand
	t       *testing.T
	voters  int
	height  int
	keepers map[int]*keeper
	good    []int // the numbers of the keepers
	bad     []int // the numbers of the faulty ones
	mail    []letter
	agreed  map[api.ID]bool
	latest  int // the latest round in which somebody was done
}

// newPlay: of so many voters, as many as may be of whom are faulty.
func newPlay(t *testing.T, seed int64, voters int) *play {
	p := &play{Rand: rand.New(rand.NewSource(seed)), t: t, voters: voters, keepers: map[int]*keeper{}, agreed: map[api.ID]bool{}}
	p.height = p.Intn(voters)
	for i, n := range p.Perm(voters) {
		if i < (voters-1)/3 {
			p.bad = append(p.bad, n)
			continue
		}
		p.good = append(p.good, n)
		p.keepers[n] = &keeper{wants: p.thing()}
	}
	for _, n := range p.good {
		p.start(n)
	}
	return p
}

// thing: one of few.
func (p *play) thing() api.ID { return api.ID{byte(1 + p.Intn(2))} }

// start: a keeper begins, or begins anew behind a crash.
func (p *play) start(n int) {
	k := p.keepers[n]
	k.r, k.alarms = fresh(p.t, p.voters, n, p.height), nil
	for _, id := range append(k.known, k.wants) {
		k.r.Remember(id)
	}
	for _, a := range k.said {
		k.r.Recall(a)
	}
	p.do(n, k.r.Begin(k.wants))
}

// do: what a keeper's acts ask for.
func (p *play) do(n int, list []round.Act) {
	k := p.keepers[n]
	for _, a := range list {
		switch a.Kind {
		case round.ATimer:
			k.alarms = append(k.alarms, a)
		case round.ADone:
			p.agreed[a.ID] = true
			p.latest = max(p.latest, a.Round)
		default:
			for _, b := range k.said {
				if a.Kind == b.Kind && a.Round == b.Round && a.Num == b.Num {
					p.t.Errorf("%d says %v behind %v", n, a, b)
				}
			}
			k.said = append(k.said, a)
			for _, to := range p.good {
				p.mail = append(p.mail, letter{n, to, a})
			}
		}
	}
}

// deliver: a letter comes.
func (p *play) deliver(l letter) {
	k, a := p.keepers[l.to], l.act
	switch {
	case l.to == l.from:
	case a.Kind == round.AVote:
		p.do(l.to, k.r.Voted(a.Round, a.Num, l.from, a.ID))
	case round.Proposer(p.voters, p.height, a.Round) == l.from:
		k.known = append(k.known, a.ID)
		p.do(l.to, k.r.Know(a.ID))
		p.do(l.to, k.r.Offered(a.Round, a.Valid, a.ID))
	}
}

// lie: a faulty one tells a keeper anything, of the round in which somebody is.
func (p *play) lie() {
	to := p.good[p.Intn(len(p.good))]
	n, _ := p.keepers[p.good[p.Intn(len(p.good))]].r.Where()
	l := letter{p.bad[p.Intn(len(p.bad))], to, vote(n, p.Intn(2), p.thing())}
	switch {
	case round.Proposer(p.voters, p.height, n) == l.from:
		l.act = send(n, p.Intn(n+1), p.thing())
	case p.Intn(4) == 0:
		l.act.ID = none
	}
	p.deliver(l)
}

// wake: the clock goes on for a keeper, by a timer that is set, or else too early.
func (p *play) wake(n int) {
	k := p.keepers[n]
	at, step := k.r.Where()
	if len(k.alarms) > 0 && p.Intn(8) > 0 {
		i := p.Intn(len(k.alarms))
		at, step = k.alarms[i].Round, k.alarms[i].Num
	}
	p.do(n, k.r.Timeout(at, step))
}

// next: something happens.
func (p *play) next() {
	n := p.good[p.Intn(len(p.good))]
	switch x := p.Intn(100); {
	case x < 70 && len(p.mail) > 0:
		i := p.Intn(len(p.mail))
		l := p.mail[i]
		if p.Intn(4) > 0 {
			p.mail[i] = p.mail[len(p.mail)-1]
			p.mail = p.mail[:len(p.mail)-1]
		}
		p.deliver(l)
	case x < 85 && len(p.bad) > 0:
		p.lie()
	case x < 99:
		p.wake(n)
	default:
		p.start(n)
	}
}

func TestNoTwoAreDoneWithUnlikeThings(t *testing.T) { // P14.5, and of P14.6 that nothing is said otherwise behind a crash
	some, far := 0, 0
	for seed := range int64(1000) {
		p := newPlay(t, seed, []int{1, 4, 4, 4, 7}[seed%5])
		for range 100 * p.voters {
			p.next()
		}
		if len(p.agreed) > 1 {
			t.Fatalf("seed %d: of %d, things agreed upon: %v", seed, p.voters, p.agreed)
		}
		some += len(p.agreed)
		if p.latest > 0 {
			far++
		}
	}
	if some < 100 || far < 50 {
		t.Errorf("so few plays in which something was agreed upon (%d), and behind the first round (%d), try nothing", some, far)
	}
}

// prompt: all letters come at once to all; timers go off when no letter is under way.
func prompt(p *play, silent map[int]bool) {
	for range 40 {
		for len(p.mail) > 0 {
			l := p.mail[0]
			p.mail = p.mail[1:]
			if !silent[l.from] && !silent[l.to] {
				p.deliver(l)
			}
		}
		for _, n := range p.good {
			k := p.keepers[n]
			due := k.alarms
			k.alarms = nil
			for _, a := range due {
				p.do(n, k.r.Timeout(a.Round, a.Num))
			}
		}
	}
}

func TestAllAreDone(t *testing.T) { // with as many silent as may be faulty
	for seed := range int64(40) {
		for _, voters := range []int{1, 4, 7} {
			p := newPlay(t, seed, voters)
			silent := map[int]bool{}
			for _, n := range p.bad {
				silent[n] = true
			}
			prompt(p, silent)
			if len(p.agreed) != 1 {
				t.Errorf("seed %d, of %d: %v", seed, voters, p.agreed)
			}
			for _, n := range p.good {
				at(t, "a keeper", p.keepers[n].r, p.latest, round.Over)
			}
			first := 0
			for silent[round.Proposer(voters, p.height, first)] {
				first++
			}
			if k := p.keepers[round.Proposer(voters, p.height, first)]; p.latest != first || !p.agreed[k.wants] {
				t.Errorf("seed %d, of %d: in the round %d, %v", seed, voters, p.latest, p.agreed)
			}
		}
	}
}
