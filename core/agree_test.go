package core_test

import (
	"math/rand"
	"testing"

	"scrivener/api"
	"scrivener/core"
)

// letter is a message that is under way.
type letter struct {
	from, to int
	m        api.Msg
}

// play is some who agree, of whom some are faulty, by letters that come in any order, more than once, or never.
type play struct {
	*rand.Rand
	t      *testing.T
	voters int
	height int
	good   []int // the numbers of those who aren't faulty
	bad    []int
	cores  map[int]*pair
	wants  map[int]string
	heard  map[int][]letter // what had a batch with it, of each
	mail   []letter
	lost   int // of a hundred letters so many
}

// newPlay: of so many voters, as many as may be of whom are faulty.
func newPlay(t *testing.T, seed int64, voters int) *play {
	p := &play{Rand: rand.New(rand.NewSource(seed)), t: t, voters: voters, cores: map[int]*pair{}, wants: map[int]string{}, heard: map[int][]letter{}, lost: 33}
	p.height = 1 + p.Intn(8)
	for i, n := range p.Perm(voters) {
		if i < (voters-1)/3 {
			p.bad = append(p.bad, n)
			continue
		}
		p.good = append(p.good, n)
		p.wants[n] = p.batch()
	}
	for _, n := range p.good {
		p.start(n, nil)
	}
	return p
}

// batch: one of few.
func (p *play) batch() string { return []string{"a", "ab", "abc", "b", "bc", "c"}[p.Intn(6)] }

// start: somebody begins, or begins anew behind a crash, with what they said ahead of it, and with what they heard that had batches.
func (p *play) start(n int, said []api.Msg) {
	x := newPair(p.t, p.voters, n, p.height)
	p.cores[n] = x
	x.Recall(said...)
	x.said = said
	if len(said) > 0 {
		for _, l := range p.heard[n] {
			p.send(n, x.Hear(l.from, l.m))
		}
	}
	if len(said) > 0 || p.Intn(3) == 0 { // behind a crash a round may have begun already, so that Begin makes nothing Fresh
		p.send(n, x.Suggest([]byte(p.wants[n])))
		p.send(n, x.Join())
		return
	}
	p.send(n, x.Begin([]byte(p.wants[n])))
}

// send: to all others who aren't faulty.
func (p *play) send(n int, list []api.Msg) {
	for _, m := range list {
		for _, to := range p.good {
			if to != n {
				p.mail = append(p.mail, letter{n, to, m})
			}
		}
	}
}

// deliver: a letter comes.
func (p *play) deliver(l letter) {
	if l.m.Kind != core.State {
		p.heard[l.to] = append(p.heard[l.to], l)
	}
	p.send(l.to, p.cores[l.to].Hear(l.from, l.m))
}

// lie: a faulty one tells somebody anything.
func (p *play) lie() {
	to := p.good[p.Intn(len(p.good))]
	n := max(p.cores[to].round(), 0)
	m := api.Msg{Kind: 3 + p.Intn(3), Who: p.Intn(p.voters), Height: p.height, Round: p.Intn(n + 1), Valid: p.Intn(n + 1)}
	switch m.Kind {
	case core.State:
		for range 2 * (n + 1) {
			m.IDs = append(m.IDs, []api.ID{zero, none, id("a"), id("ab"), id("abc"), id("b"), id("bc"), id("c")}[p.Intn(8)])
		}
	default:
		m.Data = []byte(p.batch())
	}
	p.deliver(letter{p.bad[p.Intn(len(p.bad))], to, m})
}

// next: something happens; the faulty ones lie, or are silent.
func (p *play) next(lies bool) {
	n := p.good[p.Intn(len(p.good))]
	switch x := p.Intn(100); {
	case x < 75 && len(p.mail) > 0:
		i := p.Intn(len(p.mail))
		l := p.mail[i]
		if p.Intn(6) > 0 {
			p.mail[i] = p.mail[len(p.mail)-1]
			p.mail = p.mail[:len(p.mail)-1]
		}
		if p.Intn(100) >= p.lost {
			p.deliver(l)
		}
	case x < 85 && lies && len(p.bad) > 0:
		p.lie()
	case x < 99:
		p.send(n, p.cores[n].Tick())
	default:
		p.start(n, p.cores[n].said)
	}
	if len(p.mail) > 100 { // what is old is lost
		p.mail = p.mail[len(p.mail)-100:]
	}
}

// agreed: the batches upon which some agreed, and the last round in which somebody is.
func (p *play) agreed() (map[string]int, int) {
	all, last := map[string]int{}, 0
	for _, n := range p.good {
		x := p.cores[n]
		if batch, done := x.c.Done(); done {
			all[string(batch)]++
		}
		last = max(last, x.round())
	}
	return all, last
}

func TestNoTwoAreDoneWithUnlikeBatches(t *testing.T) { // P16.1 to P16.4 in all calls; P16.5, also behind crashes
	some, far := 0, 0
	for seed := range int64(400) {
		p := newPlay(t, seed, []int{1, 4, 4, 4, 7}[seed%5])
		all := map[string]int{}
		for range 60 * p.voters {
			p.next(true)
			now, last := p.agreed()
			for batch := range now {
				all[batch]++ // what was agreed upon ahead of a crash counts too
			}
			if last > 0 && len(now) > 0 {
				far++
			}
		}
		if len(all) > 1 {
			t.Fatalf("seed %d: of %d, batches agreed upon: %v", seed, p.voters, all)
		}
		some += len(all)
	}
	if some < 100 || far < 50 {
		t.Errorf("so few plays in which something was agreed upon (%d), and behind the first round (%d), try nothing", some, far)
	}
}

// turn: all clocks go on, and all messages come.
func (p *play) turn() {
	due := p.mail
	p.mail = nil
	for _, l := range due {
		p.deliver(l)
	}
	for _, n := range p.good {
		p.send(n, p.cores[n].Tick())
	}
}

func TestAllAreDone(t *testing.T) { // P16.5: the faulty one of four is silent; all messages come from the time on when somebody is in the round 2
	longest, far := 0, 0
	for seed := range int64(400) {
		p := newPlay(t, seed, 4)
		p.lost = 60 + p.Intn(40)
		for range p.Intn(2000) {
			if _, last := p.agreed(); last == 2 {
				far++
				break
			}
			p.next(false)
		}
		p.mail = nil
		turns := 0
		for {
			all, last := p.agreed()
			count := 0
			for _, n := range all {
				count += n
			}
			if count == len(p.good) && len(all) == 1 {
				break
			}
			if turns++; turns > 600 {
				t.Fatalf("seed %d: behind 600 ticks: %v, in the round %d", seed, all, last)
			}
			p.turn()
		}
		longest = max(longest, turns)
	}
	if far < 100 || longest < 10 {
		t.Errorf("so few plays in which somebody was in the round 2 (%d), and the longest of so many ticks (%d), try nothing", far, longest)
	}
}

func TestPromptAgreement(t *testing.T) { // in the first round, upon what its Proposer wants
	for _, voters := range []int{1, 4, 7} {
		p := newPlay(t, int64(voters), voters)
		p.good, p.bad = nil, nil
		for n := range voters {
			p.good = append(p.good, n)
			p.wants[n] = string(rune('a' + n))
		}
		p.mail = nil
		for _, n := range p.good {
			p.cores[n] = newPair(t, voters, n, p.height)
		}
		for _, n := range p.good {
			p.send(n, p.cores[n].Begin([]byte(p.wants[n])))
		}
		for len(p.mail) > 0 {
			l := p.mail[0]
			p.mail = p.mail[1:]
			p.deliver(l)
		}
		want := p.wants[p.height%voters]
		if all, last := p.agreed(); all[want] != voters || last != 0 {
			t.Errorf("of %d: %v in the round %d, want %q", voters, all, last, want)
		}
		for _, n := range p.good {
			if !p.cores[n].over() || p.cores[n].c.Len() > 0 {
				t.Errorf("of %d: %d isn't over", voters, n)
			}
		}
	}
}
