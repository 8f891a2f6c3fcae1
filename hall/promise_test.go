package hall_test

import (
	"fmt"
	"testing"

	"scrivener/api"
)

func TestWhateverHappens(t *testing.T) { // P23.4, of the faulty ones as many as may be, who write whatever they like
	heights, taken, far, crashes := 0, 0, 0, 0
	for seed := range int64(50) {
		voters := []int{4, 4, 7, 4, 1}[seed%5]
		p := newPlay(t, seed, voters, (voters-1)/3, 1+int(seed)%4)
		lost, breaks := int(seed%4)*60, int(seed%3)*6
		for step := range 250 * voters {
			p.event(lost, breaks)
			if p.faulty > 0 && p.Intn(3) == 0 {
				p.h.Write(p.lie())
			}
			if step%100 == 0 {
				p.hold(fmt.Sprintf("seed %d, step %d", seed, step))
			}
			_, n, _ := p.top()
			far = max(far, n)
		}
		p.mend()
		p.hold(fmt.Sprintf("seed %d, with all up", seed))
		p.h.Calm(20)
		p.hold(fmt.Sprintf("seed %d, behind Calm", seed))
		high, _, _ := p.top()
		heights += high
		crashes += p.crashes
		for key := range p.sent {
			if _, ok := buyer(t, p.h, key[0]).Taken(key[1]); ok {
				taken++
			}
		}
	}
	t.Logf("%d heights, %d entries taken, the round %d, %d crashes", heights, taken, far, crashes)
	if heights < 100 || taken < 200 || far < 2 || crashes < 200 {
		t.Error("so few try nothing")
	}
}

func TestNothingIsUnderWay(t *testing.T) { // P23.5: behind losses and crashes, with a faulty one that writes nothing, or none
	tried, longest := 0, 0
	for seed := range int64(180) {
		p := newPlay(t, seed, 4, int(seed)%2, 1+int(seed)%4)
		for range 60 + p.Intn(300) {
			p.event(int(seed%5)*80, int(seed%3)*10)
		}
		p.mend()
		high, far, _ := p.top()
		open := p.open()
		if far > 2 || open == 0 || high+open > 8 {
			continue
		}
		tried++
		n := p.h.Calm(900)
		if n == 900 || p.open() > 0 {
			t.Errorf("seed %d: behind %d turns %d entries are under way", seed, n, p.open())
		}
		longest = max(longest, n)
		p.hold(fmt.Sprintf("seed %d", seed))
	}
	t.Logf("%d plays, at most %d turns", tried, longest)
	if tried < 120 || longest < 10 {
		t.Error("so few try nothing")
	}
}

// downOnce: things happen without any loss, but that one of four goes down, and may be back, more than once.
func (p *play) downOnce(who int) {
	mails := p.h.Mails()
	switch x := p.Intn(1000); {
	case x < 720 && mails.Len() > 0:
		p.h.Deliver(p.Intn(mails.Len()) * p.Intn(2))
	case x < 735:
		mails.Twice(p.Intn(mails.Len() + 1))
	case x < 765:
		p.submit(p.Intn(p.clients))
	case x < 920:
		p.h.Tick(p.Intn(4))
	case x < 940:
		p.h.Retry(p.Intn(p.clients))
	case x < 950:
		p.h.Break(who, p.Intn(12))
	case x < 962:
		p.crash(who)
	case x < 972:
		p.h.Back(who)
	}
	if r, e := p.h.Replica(who); e == api.OK && r.Halted() {
		p.crash(who)
	}
}

func TestOneIsDown(t *testing.T) { // P23.5: without loss, behind 200 turns for each entry; and who is back has all
	tried, back, longest := 0, 0, 0
	for seed := range int64(130) {
		p := newPlay(t, seed, 4, 0, 1+int(seed)%4)
		who := p.Intn(4)
		for range 30 + p.Intn(250) {
			p.downOnce(who)
		}
		p.h.Break(who, -1)
		if p.Intn(2) == 0 {
			p.crash(who)
		}
		high, far, _ := p.top()
		open := p.open()
		if far > 2 || open == 0 || high+open > 8 {
			continue
		}
		tried++
		n := p.h.Calm(200 * open)
		if n == 200*open {
			t.Errorf("seed %d: behind %d turns %d entries are under way", seed, n, p.open())
		}
		longest = max(longest, n)
		high, _, _ = p.top()
		if p.h.Back(who) != api.OK || high == 8 || !p.submit(0) {
			continue
		}
		back++
		p.catchesUp(fmt.Sprintf("seed %d", seed))
	}
	t.Logf("%d plays, at most %d turns, %d were back", tried, longest, back)
	if tried < 80 || back < 40 {
		t.Error("so few try nothing")
	}
}

// catchesUp: behind Calm, and 40 turns in which all clocks go on and all messages come, have all the same?
func (p *play) catchesUp(what string) {
	p.t.Helper()
	if n := p.h.Calm(200); n == 200 {
		p.t.Errorf("%s: Calm: %d turns", what, n)
	}
	for range 40 {
		for i := range p.voters {
			p.h.Tick(i)
		}
		for p.h.Mails().Len() > 0 {
			p.h.Deliver(0)
		}
	}
	p.hold(what)
	if high, _, low := p.top(); high != low {
		p.t.Errorf("%s: the heights %d and %d", what, low, high)
	}
}

func TestTheFaultyOneIsSilent(t *testing.T) { // P23.5: entry by entry, of all clients, up to the last height
	for seed := range int64(12) {
		p := newPlay(t, seed, 4, 1, 1+int(seed)%4)
		for height := 0; height < 8; height++ {
			p.submit(p.Intn(p.clients))
			if n := p.h.Calm(200); n == 200 {
				t.Fatalf("seed %d: Calm at the height %d", seed, height)
			}
			p.hold(fmt.Sprintf("seed %d, the height %d", seed, height))
		}
		if high, _, low := p.top(); high != 8 || low != 8 {
			t.Errorf("seed %d: the heights %d and %d", seed, low, high)
		}
		if p.submit(0); p.h.Calm(30) != 30 { // there is no height more
			t.Errorf("seed %d: a ninth entry is taken", seed)
		}
	}
}
