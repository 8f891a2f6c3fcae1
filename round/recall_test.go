package round_test

import (
	"math"
	"testing"

	"scrivener/api"
	"scrivener/round"
)

func TestRecallRefuses(t *testing.T) { // P14.6
	refused := []round.Act{
		vote(0, early, zero), send(0, 0, zero), send(3, 4, five), send(3, -1, five), send(0, 1, five), send(0, math.MinInt, five), send(3, math.MaxInt, five),
		vote(3, 2, five), vote(3, -1, five), timer(3, round.Vote), done(3, five), {}, {Kind: 5, Round: 1, ID: five}, {Kind: 0, Round: 1, ID: five}, {Kind: -2, Round: 1, ID: five},
	}
	for _, n := range odd {
		refused = append(refused, vote(n, early, five), vote(n, late, five), send(n, 0, five), vote(3, n, five), round.Act{Kind: n, Round: 3, ID: five})
	}
	for _, a := range refused {
		r := fresh(t, 4, 3, 0, five)
		r.Recall(a)
		p := newPlain(4, 3, 0)
		p.Know(five)
		same(t, "Recall", r, p)
		acts(t, "Begin", r.Begin(zero), timer(0, round.Propose))
		r.Recall(a)
		p.Begin(zero)
		same(t, "Recall behind Begin", r, p)
	}
}

func TestRecallOfAnOffer(t *testing.T) { // P14.6
	r := fresh(t, 4, 0, 0, five)
	for _, a := range []round.Act{send(0, 0, five), send(4, 4, six), send(8, 0, none), send(11, 11, five), send(0, 0, six), send(4, 0, five)} {
		r.Recall(a)
		at(t, "an offer", r, -1, round.Over)
	}
	for n, want := range map[int]round.Offer{0: {There: true, ID: five}, 4: {There: true, Valid: 4, ID: six}, 8: {There: true, ID: none}, 11: {There: true, Valid: 11, ID: five}, 1: {}} {
		if r.Offer(n) != want {
			t.Errorf("Offer(%d): %v", n, r.Offer(n))
		}
	}
	acts(t, "it isn't proposed otherwise", r.Begin(nine), vote(0, early, five))
}

func TestRecallOfVotes(t *testing.T) { // P14.6: the round, the step, lock and best
	r := fresh(t, 4, 3, 0, five, six)
	r.Recall(vote(0, early, five))
	at(t, "an early vote", r, 0, round.Vote)
	holds(t, "an early vote", r, 0, zero, 0, zero)
	r.Recall(vote(0, late, none))
	at(t, "a late vote for nothing", r, 0, round.Commit)
	holds(t, "a late vote for nothing", r, 0, zero, 0, zero)
	r.Recall(vote(2, early, six))
	at(t, "a later round", r, 2, round.Vote)
	r.Recall(vote(2, late, six))
	at(t, "a late vote", r, 2, round.Commit)
	holds(t, "a late vote", r, 3, six, 3, six)
	r.Recall(vote(2, late, five))
	r.Recall(vote(1, late, five))
	r.Recall(vote(1, early, five))
	at(t, "an earlier round", r, 2, round.Commit)
	holds(t, "an earlier round", r, 3, six, 3, six)
	for n, want := range [][2]api.ID{{five, none}, {five, five}, {six, six}, {}} {
		if r.Own(n) != want {
			t.Errorf("Own(%d): %v", n, r.Own(n))
		}
	}
	r.Recall(vote(11, late, none))
	at(t, "a late vote for nothing", r, 11, round.Commit)
	holds(t, "a late vote for nothing", r, 3, six, 3, six)
}

func TestRecallOfAVoteThatIsThere(t *testing.T) { // P14.6: nothing else
	r := fresh(t, 4, 3, 0, five)
	r.Recall(vote(1, late, none))
	r.Recall(vote(1, early, none))
	at(t, "the early one behind the late one", r, 1, round.Vote)
	r.Recall(vote(1, late, five))
	r.Recall(vote(1, late, none))
	at(t, "a late one that is there", r, 1, round.Vote)
	holds(t, "a late one that is there", r, 0, zero, 0, zero)
	acts(t, "no second vote", r.Timeout(1, round.Vote))
	at(t, "no second vote", r, 1, round.Commit)
}

func TestBeginBehindRecall(t *testing.T) { // P14.4, P14.6: a round began
	r := fresh(t, 4, 2, 0, five)
	r.Recall(vote(1, early, five))
	acts(t, "Begin", r.Begin(six))
	at(t, "Begin", r, 1, round.Vote)
	acts(t, "what Begin hands in counts for nothing", r.Timeout(1, round.Commit), timer(2, round.Propose))
	r = fresh(t, 4, 2, 0, five)
	r.Recall(vote(1, late, five))
	r.Recall(vote(0, early, five))
	voted(t, r, 1, late, five, 0)
	acts(t, "one's own vote counts", r.Voted(1, late, 1, five), done(1, five))
	r = fresh(t, 4, 2, 0)
	r.Recall(vote(1, late, five))
	acts(t, "what one votes for is proposed", r.Timeout(1, round.Commit), send(2, 2, five))
}

func TestRecallWhenAllIsOver(t *testing.T) { // P14.6: it does just this whenever it is called
	r := fresh(t, 4, 3, 0, five)
	acts(t, "Begin", r.Begin(zero), timer(0, round.Propose))
	voted(t, r, 0, late, five, 0, 1)
	acts(t, "done", r.Voted(0, late, 2, five), done(0, five))
	r.Recall(vote(0, early, five))
	at(t, "Recall", r, 0, round.Vote)
	acts(t, "done once more", r.Know(zero), done(0, five))
	at(t, "done once more", r, 0, round.Over)
}

func TestNoVoteOtherwiseBehindACrash(t *testing.T) { // P14.6
	before := fresh(t, 4, 3, 0, five, six)
	said := before.Begin(zero)
	said = append(said, before.Offered(0, 0, five)...)
	said = append(said, before.Voted(0, early, 0, five)...)
	said = append(said, before.Voted(0, early, 1, five)...)
	said = append(said, before.Voted(1, early, 0, five)...)
	said = append(said, before.Voted(1, early, 1, five)...)
	said = append(said, before.Timeout(1, round.Propose)...)
	acts(t, "before", said, timer(0, round.Propose), vote(0, early, five), vote(0, late, five), timer(1, round.Propose),
		vote(1, early, none), timer(1, round.Vote))
	r := fresh(t, 4, 3, 0, five, six)
	for _, a := range said {
		r.Recall(a)
	}
	at(t, "Recall", r, 1, round.Vote)
	holds(t, "Recall", r, 1, five, 1, five)
	acts(t, "Begin", r.Begin(six))
	acts(t, "another offer", r.Offered(0, 0, six))
	acts(t, "another one", r.Offered(1, 0, six))
	voted(t, r, 1, early, six, 0)
	acts(t, "three votes", r.Voted(1, early, 1, none), timer(1, round.Vote))
	acts(t, "the round that is over", r.Timeout(0, round.Propose))
	acts(t, "the step that is over", r.Timeout(1, round.Propose))
	acts(t, "the first late vote", r.Timeout(1, round.Vote), vote(1, late, none))
	acts(t, "the next round", r.Timeout(1, round.Commit), timer(2, round.Propose))
	acts(t, "the lock holds", r.Offered(2, 0, six), vote(2, early, none))
}

func TestRoundsAreApart(t *testing.T) { // P2
	one, two := fresh(t, 4, 3, 0, five), fresh(t, 4, 3, 0, six)
	p, q := newPlain(4, 3, 0), newPlain(4, 3, 0)
	p.Know(five)
	q.Know(six)
	for who := range 3 {
		acts(t, "one", one.Voted(0, early, who, five), p.Voted(0, early, who, five)...)
		acts(t, "two", two.Voted(0, late, who, six), q.Voted(0, late, who, six)...)
	}
	acts(t, "one", one.Begin(zero), p.Begin(zero)...)
	acts(t, "two", two.Begin(zero), q.Begin(zero)...)
	same(t, "one", one, p)
	same(t, "two", two, q)
}

func TestWhatIsAnsweredIsNew(t *testing.T) { // P2: it shares memory with nothing
	r, p := fresh(t, 1, 0, 0), newPlain(1, 0, 0)
	list := r.Begin(five)
	acts(t, "Begin", list, p.Begin(five)...)
	spoil := func(l []round.Act) {
		for i := range l[:cap(l)] {
			l[:cap(l)][i] = done(9, nine)
		}
	}
	spoil(list)
	own, offer := r.Own(0), r.Offer(0)
	own[0], offer.ID = nine, nine
	same(t, "behind a change of the acts", r, p)
	next := r.Know(five)
	acts(t, "Know", next, p.Know(five)...)
	spoil(list)
	acts(t, "behind a change of the elder acts", next, vote(0, early, five), vote(0, late, five), done(0, five))
	spoil(next)
	same(t, "behind a change of all", r, p)
}

func TestAllArguments(t *testing.T) { // P1
	for _, voters := range []int{1, 4, 7} {
		for _, begun := range []bool{false, true} {
			r, p := fresh(t, voters, 0, math.MaxInt), newPlain(voters, 0, math.MaxInt%voters)
			if begun {
				acts(t, "Begin", r.Begin(five), p.Begin(five)...)
			}
			for _, n := range odd {
				for _, m := range odd {
					acts(t, "Offered", r.Offered(n, m, five))
					acts(t, "Voted", r.Voted(n, m, n, five))
					acts(t, "Voted", r.Voted(0, m, n, five))
					acts(t, "Timeout", r.Timeout(n, m))
					r.Recall(round.Act{Kind: n, Round: m, Num: n, Valid: m, ID: five})
					if r.Vote(n, m, m) != zero || r.Vote(0, n, m) != zero || r.Own(n) != [2]api.ID{} || r.Offer(n) != (round.Offer{}) {
						t.Errorf("of %d and %d", n, m)
					}
				}
			}
			same(t, "behind all", r, p)
		}
	}
}
