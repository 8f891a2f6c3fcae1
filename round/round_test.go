package round_test

import (
	"math"
	"math/big"
	"slices"
	"testing"

	"scrivener/api"
	"scrivener/count"
	"scrivener/round"
)

// The kinds of votes, and things to agree upon.
const (
	early = count.Prevote
	late  = count.Precommit
)

var (
	none = count.Nil()
	five = api.ID{5}
	six  = api.ID{6}
	nine = api.ID{9}
)

// odd are numbers that are no rounds, kinds, steps or voters.
var odd = []int{math.MinInt, math.MinInt32, -2, -1, 12, 13, 256, math.MaxInt32, math.MaxInt - 1, math.MaxInt}

func send(n, valid int, id api.ID) round.Act {
	return round.Act{Kind: round.ASend, Round: n, Valid: valid, ID: id}
}

func vote(n, kind int, id api.ID) round.Act {
	return round.Act{Kind: round.AVote, Round: n, Num: kind, ID: id}
}

func timer(n, step int) round.Act {
	return round.Act{Kind: round.ATimer, Round: n, Num: step}
}

func done(n int, id api.ID) round.Act {
	return round.Act{Kind: round.ADone, Round: n, ID: id}
}

// fresh: a round that knows some things. Of four at the height 0, n is the Proposer of the rounds n, n + 4 and n + 8.
func fresh(t *testing.T, voters, me, height int, known ...api.ID) *round.Round {
	t.Helper()
	r, e := round.New(voters, me, height)
	if e != api.OK || r == nil {
		t.Fatalf("New(%d, %d, %d): %v", voters, me, height, e)
	}
	for _, id := range known {
		if acts := r.Know(id); len(acts) != 0 {
			t.Fatalf("Know ahead of Begin: %v", acts)
		}
	}
	return r
}

// acts: are these answered?
func acts(t *testing.T, what string, got []round.Act, want ...round.Act) {
	t.Helper()
	if !slices.Equal(got, want) {
		t.Errorf("%s: %v, want %v", what, got, want)
	}
}

// at: is it in a round and a step?
func at(t *testing.T, what string, r *round.Round, n, step int) {
	t.Helper()
	if m, s := r.Where(); m != n || s != step {
		t.Errorf("%s: in the round %d and the step %d, want %d and %d", what, m, s, n, step)
	}
}

// holds: are these its lock and what was sure last?
func holds(t *testing.T, what string, r *round.Round, lock int, locked api.ID, best int, sure api.ID) {
	t.Helper()
	if n, id := r.Lock(); n != lock || id != locked {
		t.Errorf("%s: Lock %d, %v", what, n, id[:1])
	}
	if n, id := r.Best(); n != best || id != sure {
		t.Errorf("%s: Best %d, %v", what, n, id[:1])
	}
}

// voted: votes of a kind in a round of some, who aren't told any act by them.
func voted(t *testing.T, r *round.Round, n, kind int, id api.ID, list ...int) {
	t.Helper()
	for _, who := range list {
		if acts := r.Voted(n, kind, who, id); len(acts) != 0 {
			t.Errorf("the vote of %d: %v", who, acts)
		}
	}
}

// in: a round of four whose own is 3, at the height 0, in a later round, by votes of 0 and 1.
func in(t *testing.T, n int, known ...api.ID) *round.Round {
	t.Helper()
	r := fresh(t, 4, 3, 0, known...)
	acts(t, "Begin", r.Begin(zero), timer(0, round.Propose))
	moved(t, r, n)
	return r
}

// moved: it is in a later round, by two late votes for nothing.
func moved(t *testing.T, r *round.Round, n int) {
	t.Helper()
	voted(t, r, n, late, none, 0)
	r.Voted(n, late, 1, none)
	at(t, "two votes", r, n, round.Propose)
}

func TestNames(t *testing.T) {
	if round.Propose != 0 || round.Vote != 1 || round.Commit != 2 || round.Over != 3 || round.MaxKnown != 32 {
		t.Error("the steps, or MaxKnown")
	}
	if round.ASend != 1 || round.AVote != 2 || round.ATimer != 3 || round.ADone != 4 {
		t.Error("the kinds of acts")
	}
}

func TestProposer(t *testing.T) { // P14.1
	for _, x := range [][4]int{{4, 0, 0, 0}, {4, 0, 3, 3}, {4, 1, 3, 0}, {4, 5, 2, 3}, {7, 3, 11, 0}, {7, 3, 9, 5}, {1, 8, 3, 0}, {5, 2, 2, 4},
		{0, 1, 1, 0}, {-4, 1, 2, 0}, {4, -1, 2, 0}, {4, 3, -1, 0}, {4, math.MinInt, 1, 0}, {4, 1, math.MinInt, 0}, {math.MinInt, 1, 1, 0}} {
		if got := round.Proposer(x[0], x[1], x[2]); got != x[3] {
			t.Errorf("Proposer(%d, %d, %d): %d", x[0], x[1], x[2], got)
		}
	}
	great := []int{0, 1, 6, 7, math.MaxInt32, math.MaxInt / 2, math.MaxInt/2 + 1, math.MaxInt - 1, math.MaxInt}
	for _, voters := range great[1:] {
		for _, height := range great {
			for _, n := range great {
				sum := new(big.Int).Add(big.NewInt(int64(height)), big.NewInt(int64(n)))
				want := int(sum.Mod(sum, big.NewInt(int64(voters))).Int64())
				if got := round.Proposer(voters, height, n); got != want {
					t.Errorf("Proposer(%d, %d, %d): %d, want %d", voters, height, n, got, want)
				}
			}
		}
	}
}

func TestNewRefuses(t *testing.T) { // P14.1
	refused := [][3]int{{4, -1, 0}, {4, 4, 0}, {7, 7, 1}, {1, 1, 1}, {4, 0, -1}, {1, 0, math.MinInt}, {2, 0, 0}, {3, 0, 0}, {10, 0, 0}, {0, 0, 0}, {-1, -2, -3}, {0, -1, 0}}
	for _, n := range odd {
		refused = append(refused, [3]int{n, 0, 0}, [3]int{4, n, 0})
	}
	for _, x := range refused {
		if r, e := round.New(x[0], x[1], x[2]); r != nil || e != api.ErrRange {
			t.Errorf("New(%v): %v, %v", x, r, e)
		}
	}
}

func TestNewIsAheadOfItsFirstRound(t *testing.T) { // P14.1
	for _, x := range [][3]int{{1, 0, 0}, {4, 0, 1}, {4, 3, 0}, {7, 6, 8}, {7, 0, math.MaxInt}} {
		r := fresh(t, x[0], x[1], x[2])
		at(t, "New", r, -1, round.Over)
		same(t, "New", r, newPlain(x[0], x[1], x[2]))
	}
}

func TestOneVoterAlone(t *testing.T) { // the chapter's example
	for _, height := range []int{0, 1, math.MaxInt} {
		r := fresh(t, 1, 0, height, api.ID{7})
		acts(t, "Begin", r.Begin(api.ID{7}), send(0, 0, api.ID{7}), vote(0, early, api.ID{7}), vote(0, late, api.ID{7}), done(0, api.ID{7}))
		at(t, "Begin", r, 0, round.Over)
		holds(t, "Begin", r, 1, api.ID{7}, 1, api.ID{7})
		if r.Offer(0) != (round.Offer{There: true, ID: api.ID{7}}) || r.Own(0) != [2]api.ID{{7}, {7}} {
			t.Error("its offer, or its votes")
		}
	}
}

func TestOneVoterWhoKnowsNothing(t *testing.T) { // P14.3: known
	r := fresh(t, 1, 0, 3)
	acts(t, "Begin", r.Begin(five), send(0, 0, five))
	acts(t, "Know another one", r.Know(six))
	acts(t, "Know", r.Know(five), vote(0, early, five), vote(0, late, five), done(0, five))
}

func TestARoundBegins(t *testing.T) { // P14.2, P14.4
	r := fresh(t, 4, 1, 0)
	acts(t, "not the Proposer", r.Begin(five), timer(0, round.Propose))
	at(t, "Begin", r, 0, round.Propose)
	acts(t, "the next round", r.Timeout(0, round.Commit), send(1, 0, five))
	at(t, "the next round", r, 1, round.Propose)
	acts(t, "the one behind it", r.Timeout(1, round.Commit), timer(2, round.Propose))

	r = fresh(t, 4, 1, 1)
	acts(t, "the height counts", r.Begin(five), send(0, 0, five))
	r = fresh(t, 4, 1, 5)
	acts(t, "nothing to propose", r.Begin(zero), timer(0, round.Propose))
}

func TestWhoProposesHasAnOfferAlready(t *testing.T) { // P14.2
	r := fresh(t, 4, 0, 0)
	acts(t, "Offered", r.Offered(0, 0, six))
	acts(t, "Begin", r.Begin(five))
	at(t, "Begin", r, 0, round.Propose)
	if r.Offer(0) != (round.Offer{There: true, ID: six}) {
		t.Error("the first offer stays")
	}
	acts(t, "Know", r.Know(six), vote(0, early, six))
}

func TestTwelveRounds(t *testing.T) { // P14.2
	r := fresh(t, 4, 3, 0)
	acts(t, "Begin", r.Begin(zero), timer(0, round.Propose))
	for n := range 11 {
		acts(t, "Commit", r.Timeout(n, round.Commit), timer(n+1, round.Propose))
	}
	acts(t, "the last Commit", r.Timeout(11, round.Commit))
	at(t, "the last Commit", r, 11, round.Over)
	for who := range 3 {
		acts(t, "nothing comes of votes", r.Voted(11, late, who, five))
	}
	acts(t, "nothing comes of what is known", r.Know(five))
	acts(t, "nothing comes of Begin", r.Begin(five))
	acts(t, "nothing comes of timers", r.Timeout(11, round.Commit))
	acts(t, "nor of others", r.Timeout(11, round.Propose))
	at(t, "the end", r, 11, round.Over)
}

func TestFresh(t *testing.T) { // P14.4
	r := fresh(t, 1, 0, 0)
	r.Fresh(five)
	acts(t, "Begin with nothing", r.Begin(zero), send(0, 0, five))
	r.Fresh(six)
	acts(t, "Fresh is proposed from the next round on", r.Timeout(0, round.Commit), send(1, 0, six))
	acts(t, "Begin once more", r.Begin(nine))
	acts(t, "what Begin hands in then counts for nothing", r.Timeout(1, round.Commit), send(2, 0, six))
	r.Fresh(zero)
	acts(t, "nothing is Fresh", r.Timeout(2, round.Commit), timer(3, round.Propose))
	r = fresh(t, 1, 0, 0)
	r.Fresh(five)
	acts(t, "Begin with something", r.Begin(six), send(0, 0, six))
}

func TestAllAgree(t *testing.T) { // P14.3: (c), (d), (a)
	for _, voters := range []int{4, 7} {
		need := 2*(voters/3) + 1
		r := fresh(t, voters, voters-1, 0, five)
		acts(t, "Begin", r.Begin(nine), timer(0, round.Propose))
		acts(t, "Offered", r.Offered(0, 0, five), vote(0, early, five))
		at(t, "an early vote", r, 0, round.Vote)
		for who := range need - 2 {
			voted(t, r, 0, early, five, who)
		}
		holds(t, "too few votes", r, 0, zero, 0, zero)
		acts(t, "sure early", r.Voted(0, early, need-2, five), vote(0, late, five))
		at(t, "a late vote", r, 0, round.Commit)
		holds(t, "a late vote", r, 1, five, 1, five)
		for who := range need - 2 {
			voted(t, r, 0, late, five, who)
		}
		acts(t, "sure late", r.Voted(0, late, need-2, five), done(0, five))
		at(t, "sure late", r, 0, round.Over)
		acts(t, "one vote more", r.Voted(0, late, need-1, five))
		acts(t, "a vote far ahead", r.Voted(5, late, 0, five))
		acts(t, "another one", r.Voted(5, late, 1, five))
		at(t, "done", r, 0, round.Over)
	}
}

func TestTimers(t *testing.T) { // P14.2, P14.3: each once
	r := fresh(t, 4, 3, 0, five)
	acts(t, "Begin", r.Begin(zero), timer(0, round.Propose))
	acts(t, "Offered", r.Offered(0, 0, five), vote(0, early, five))
	voted(t, r, 0, early, six, 0)
	acts(t, "three early votes", r.Voted(0, early, 1, none), timer(0, round.Vote))
	acts(t, "a fourth one", r.Voted(0, early, 2, none))
	voted(t, r, 0, late, none, 0, 1)
	acts(t, "three late votes, in the step Vote", r.Voted(0, late, 2, five), timer(0, round.Commit))
	acts(t, "Timeout", r.Timeout(0, round.Vote), vote(0, late, none))
	at(t, "Timeout", r, 0, round.Commit)
	acts(t, "Commit", r.Timeout(0, round.Commit), timer(1, round.Propose))
}

func TestTimerOfCommitInTheStepPropose(t *testing.T) { // P14.3
	r := in(t, 2)
	acts(t, "three late votes", r.Voted(2, late, 2, five), timer(2, round.Commit))
	at(t, "three late votes", r, 2, round.Propose)
	r = in(t, 2)
	voted(t, r, 2, early, five, 0, 1, 2)
	acts(t, "a timer of Vote waits for the own vote", r.Timeout(2, round.Propose), vote(2, early, none), timer(2, round.Vote))
	acts(t, "three late votes", r.Voted(2, late, 2, none), timer(2, round.Commit))
}

func TestTimersOfTwoKinds(t *testing.T) { // P14.3: of Vote ahead of one of Commit
	r := in(t, 2)
	acts(t, "a timer of Commit alone", r.Voted(2, late, 2, none), timer(2, round.Commit))
	acts(t, "an early vote", r.Timeout(2, round.Propose), vote(2, early, none))
	voted(t, r, 2, early, five, 0)
	acts(t, "a timer of Vote", r.Voted(2, early, 1, six), timer(2, round.Vote))

	r = fresh(t, 4, 3, 0)
	for who := range 3 {
		acts(t, "ahead of Begin", r.Voted(1, early, who, api.ID{byte(who + 1)}))
		acts(t, "ahead of Begin", r.Voted(1, late, who, none))
	}
	acts(t, "Begin", r.Begin(zero), timer(0, round.Propose), timer(1, round.Propose), timer(1, round.Commit))
	acts(t, "an early vote", r.Timeout(1, round.Propose), vote(1, early, none), timer(1, round.Vote))
}

func TestTimeout(t *testing.T) { // P14.4
	r := fresh(t, 4, 3, 0)
	for _, n := range append([]int{0, 1}, odd...) {
		for _, step := range append([]int{0, 1, 2, 3}, odd...) {
			acts(t, "ahead of Begin", r.Timeout(n, step))
			at(t, "ahead of Begin", r, -1, round.Over)
		}
	}
	acts(t, "Begin", r.Begin(zero), timer(0, round.Propose))
	for _, step := range append([]int{round.Vote, round.Over}, odd...) {
		acts(t, "another step", r.Timeout(0, step))
	}
	for _, n := range append([]int{1, 2}, odd...) {
		for step := range 4 {
			acts(t, "another round", r.Timeout(n, step))
		}
	}
	at(t, "nothing", r, 0, round.Propose)
	acts(t, "Propose", r.Timeout(0, round.Propose), vote(0, early, none))
	at(t, "Propose", r, 0, round.Vote)
	acts(t, "Propose once more", r.Timeout(0, round.Propose))
	acts(t, "Vote", r.Timeout(0, round.Vote), vote(0, late, none))
	at(t, "Vote", r, 0, round.Commit)
	acts(t, "Vote once more", r.Timeout(0, round.Vote))
	acts(t, "Propose, late", r.Timeout(0, round.Propose))
	at(t, "Propose, late", r, 0, round.Commit)
	acts(t, "Commit", r.Timeout(0, round.Commit), timer(1, round.Propose))
	acts(t, "Commit once more", r.Timeout(0, round.Commit))
	at(t, "Commit", r, 1, round.Propose)
	acts(t, "an offer behind its time", r.Offered(0, 0, five))
	acts(t, "Commit in the step Propose", r.Timeout(1, round.Commit), timer(2, round.Propose))
	acts(t, "Propose", r.Timeout(2, round.Propose), vote(2, early, none))
	acts(t, "Commit in the step Vote, who proposes has nothing", r.Timeout(2, round.Commit), timer(3, round.Propose))
	at(t, "Commit in the step Vote", r, 3, round.Propose)
}

func TestNilIsNotSure(t *testing.T) { // P14.3: (e), and nothing is done
	r := fresh(t, 4, 3, 0, none)
	acts(t, "Begin", r.Begin(zero), timer(0, round.Propose))
	acts(t, "Propose", r.Timeout(0, round.Propose), vote(0, early, none))
	voted(t, r, 0, early, none, 0)
	acts(t, "three for nothing", r.Voted(0, early, 1, none), vote(0, late, none))
	holds(t, "three for nothing", r, 0, zero, 0, zero)
	voted(t, r, 0, late, none, 0)
	acts(t, "three for nothing, late", r.Voted(0, late, 1, none), timer(0, round.Commit))
	acts(t, "a fourth one", r.Voted(0, late, 2, none))
	at(t, "a fourth one", r, 0, round.Commit)

	r = in(t, 2, five, none)
	voted(t, r, 2, early, none, 0, 1, 2)
	at(t, "in the step Propose", r, 2, round.Propose)
	acts(t, "an early vote, and then a late one", r.Offered(2, 0, five), vote(2, early, five), vote(2, late, none), timer(2, round.Commit))
}

func TestDoneInAnotherRound(t *testing.T) { // P14.3: (a), of whatever round, the lowest; ahead of (b)
	r := in(t, 5, five)
	voted(t, r, 2, late, five, 0, 1)
	acts(t, "of a round that is over", r.Voted(2, late, 2, five), done(2, five))
	at(t, "of a round that is over", r, 5, round.Over)

	r = fresh(t, 4, 3, 0)
	acts(t, "Begin", r.Begin(zero), timer(0, round.Propose))
	voted(t, r, 7, late, five, 0)
	acts(t, "two votes ahead", r.Voted(7, late, 1, five), timer(7, round.Propose))
	acts(t, "unknown", r.Voted(7, late, 2, five), timer(7, round.Commit))
	voted(t, r, 3, late, five, 0, 1, 2)
	voted(t, r, 4, late, six, 0, 1, 2)
	voted(t, r, 9, late, five, 0)
	acts(t, "known", r.Know(five), done(3, five))
	at(t, "known", r, 7, round.Over)

	r = fresh(t, 4, 3, 0, six)
	for who := range 3 {
		acts(t, "ahead of Begin", r.Voted(3, late, who, five))
		acts(t, "ahead of Begin", r.Voted(4, late, who, six))
	}
	acts(t, "the lowest that is known, ahead of (b)", r.Begin(zero), timer(0, round.Propose), done(4, six))
	at(t, "the lowest that is known", r, 0, round.Over)
}

func TestAhead(t *testing.T) { // P14.3: (b), ahead of (c)
	r := fresh(t, 4, 3, 0, five)
	acts(t, "Begin", r.Begin(nine), timer(0, round.Propose))
	voted(t, r, 3, early, six, 0)
	acts(t, "of two voters, who proposes", r.Voted(3, late, 1, none), send(3, 0, nine))
	at(t, "of two voters", r, 3, round.Propose)
	voted(t, r, 1, early, six, 0, 1, 2)
	at(t, "of an earlier round", r, 3, round.Propose)
	voted(t, r, 11, early, six, 2)
	acts(t, "one voter is too few", r.Voted(11, late, 2, six))

	r = fresh(t, 4, 3, 0, five)
	for who := range 2 {
		acts(t, "ahead of Begin", r.Voted(6, early, who, none))
		acts(t, "ahead of Begin", r.Voted(2, early, who, none))
	}
	acts(t, "an offer ahead of Begin", r.Offered(0, 0, five))
	acts(t, "an offer ahead of Begin", r.Offered(6, 0, five))
	acts(t, "Begin", r.Begin(zero), timer(0, round.Propose), timer(6, round.Propose), vote(6, early, five), timer(6, round.Vote))
	if r.Own(0) != [2]api.ID{} {
		t.Error("a vote in a round that is over")
	}
}

func TestAnOfferWithoutALock(t *testing.T) { // P14.3: (c), Valid 0
	r := in(t, 2)
	acts(t, "unknown", r.Offered(2, 0, five))
	acts(t, "another one is known", r.Know(six))
	acts(t, "known", r.Know(five), vote(2, early, five))
	acts(t, "a second offer", r.Offered(2, 0, six))
	if r.Offer(2) != (round.Offer{There: true, ID: five}) {
		t.Error("the first offer stays")
	}
	r = in(t, 2, five)
	acts(t, "of another round", r.Offered(1, 0, five))
	acts(t, "of a later round", r.Offered(3, 0, five))
	at(t, "of another round", r, 2, round.Propose)
	acts(t, "its round", r.Timeout(2, round.Commit), vote(3, early, five))
}

// locked: one of four, 3, who has voted late for five in the round 0, now in a later round.
func locked(t *testing.T, n int) *round.Round {
	t.Helper()
	r := fresh(t, 4, 3, 0, five, six)
	acts(t, "Begin", r.Begin(nine), timer(0, round.Propose))
	acts(t, "Offered", r.Offered(0, 0, five), vote(0, early, five))
	voted(t, r, 0, early, five, 0)
	acts(t, "sure early", r.Voted(0, early, 1, five), vote(0, late, five))
	moved(t, r, n)
	holds(t, "a later round", r, 1, five, 1, five)
	return r
}

func TestTheLockHolds(t *testing.T) { // P14.3: (c)
	r := locked(t, 1)
	acts(t, "another one, with Valid 0", r.Offered(1, 0, six), vote(1, early, none))
	r = locked(t, 1)
	acts(t, "that one, with Valid 0", r.Offered(1, 0, five), vote(1, early, five))
	r = locked(t, 2)
	acts(t, "that one, with Valid 1", r.Offered(2, 1, five), vote(2, early, five))
	r = locked(t, 2)
	acts(t, "another one, with Valid 1", r.Offered(2, 1, six))
	at(t, "another one, which wasn't sure", r, 2, round.Propose)
	acts(t, "Propose", r.Timeout(2, round.Propose), vote(2, early, none))
	r = locked(t, 2)
	acts(t, "that one, not sure in the round 1", r.Offered(2, 2, five))
	voted(t, r, 1, early, five, 0, 1)
	acts(t, "that one, sure now", r.Voted(1, early, 2, five), vote(2, early, five))
}

func TestTheLockGivesWay(t *testing.T) { // P14.3: (c), as the lock's round isn't above Valid
	r := locked(t, 4)
	acts(t, "another one, with Valid 2", r.Offered(4, 2, six))
	voted(t, r, 1, early, six, 0, 1)
	voted(t, r, 2, early, six, 0, 1, 2)
	at(t, "not sure in the round 1", r, 4, round.Propose)
	acts(t, "sure in the round 1", r.Voted(1, early, 2, six), vote(4, early, six))
	holds(t, "an early vote", r, 1, five, 1, five)
	voted(t, r, 4, early, six, 0)
	acts(t, "sure early", r.Voted(4, early, 1, six), vote(4, late, six), timer(4, round.Commit))
	holds(t, "a late vote", r, 5, six, 5, six)
}

func TestTheLockOfTheSameRoundGivesWay(t *testing.T) { // P14.3: (c), at the edge: a lock of the round Valid - 1
	r := fresh(t, 4, 3, 0, five, six)
	r.Recall(vote(1, late, five))
	voted(t, r, 1, early, six, 0, 1, 2)
	acts(t, "Commit", r.Timeout(1, round.Commit), timer(2, round.Propose))
	acts(t, "Valid 2, and the lock's 2", r.Offered(2, 2, six), vote(2, early, six))

	r = fresh(t, 4, 3, 0, five, six)
	r.Recall(vote(1, late, five))
	voted(t, r, 0, early, six, 0, 1, 2)
	acts(t, "Commit", r.Timeout(1, round.Commit), timer(2, round.Propose))
	acts(t, "Valid 1, and the lock's 2", r.Offered(2, 1, six), vote(2, early, none))
}

func TestAnOfferThatWasVotedForBefore(t *testing.T) { // P14.3: (c), of who has no lock
	r := in(t, 2, five)
	acts(t, "not sure yet", r.Offered(2, 2, five))
	voted(t, r, 1, early, five, 0, 1)
	at(t, "two votes", r, 2, round.Propose)
	acts(t, "sure in that round", r.Voted(1, early, 2, five), vote(2, early, five))
	r = in(t, 2, five, six)
	voted(t, r, 0, early, five, 0, 1, 2)
	acts(t, "sure in another round", r.Offered(2, 2, five))
	voted(t, r, 1, late, five, 0, 1)
	voted(t, r, 1, early, six, 0, 1, 2)
	at(t, "another one was sure", r, 2, round.Propose)
}

func TestBest(t *testing.T) { // P14.3: (d), and P14.2: it is proposed
	r := fresh(t, 4, 3, 0, five)
	acts(t, "Begin", r.Begin(nine), timer(0, round.Propose))
	moved(t, r, 1)
	voted(t, r, 1, early, five, 0, 1, 2)
	holds(t, "in the step Propose", r, 0, zero, 0, zero)
	acts(t, "behind an early vote", r.Timeout(1, round.Propose), vote(1, early, none), vote(1, late, five), timer(1, round.Commit))
	holds(t, "a late vote", r, 2, five, 2, five)
	acts(t, "the next round", r.Timeout(1, round.Commit), timer(2, round.Propose))
	acts(t, "who proposes", r.Timeout(2, round.Commit), send(3, 2, five), vote(3, early, five))
	if r.Offer(3) != (round.Offer{There: true, Valid: 2, ID: five}) {
		t.Errorf("its offer: %v", r.Offer(3))
	}
}

func TestBestBehindALateVote(t *testing.T) { // P14.3: (d), in the step Commit: no lock
	r := in(t, 2, five)
	acts(t, "Propose", r.Timeout(2, round.Propose), vote(2, early, none))
	acts(t, "Vote", r.Timeout(2, round.Vote), vote(2, late, none), timer(2, round.Commit))
	voted(t, r, 2, early, five, 0, 1)
	holds(t, "two votes", r, 0, zero, 0, zero)
	acts(t, "three votes", r.Voted(2, early, 2, five))
	holds(t, "three votes", r, 0, zero, 3, five)
	at(t, "three votes", r, 2, round.Commit)
	acts(t, "who proposes", r.Timeout(2, round.Commit), send(3, 3, five), vote(3, early, five))
}

func TestBestMustBeKnown(t *testing.T) { // P14.3: (d)
	r := in(t, 2)
	acts(t, "Propose", r.Timeout(2, round.Propose), vote(2, early, none))
	voted(t, r, 2, early, five, 0)
	acts(t, "three votes", r.Voted(2, early, 1, five), timer(2, round.Vote))
	acts(t, "unknown", r.Voted(2, early, 2, five))
	holds(t, "unknown", r, 0, zero, 0, zero)
	acts(t, "known", r.Know(five), vote(2, late, five), timer(2, round.Commit))
	holds(t, "known", r, 3, five, 3, five)
}

func TestWhoseVotesCount(t *testing.T) { // P14.4: of others alone; layer 13's Put
	r := fresh(t, 4, 3, 0, five)
	acts(t, "Begin", r.Begin(zero), timer(0, round.Propose))
	acts(t, "one's own", r.Voted(0, early, 3, five))
	if r.Own(0) != [2]api.ID{} || r.Vote(0, early, 3) != zero {
		t.Error("one's own vote by Voted")
	}
	acts(t, "a vote", r.Voted(0, early, 1, five))
	acts(t, "another one", r.Voted(0, early, 1, six))
	if r.Vote(0, early, 1) != five {
		t.Error("the first vote stays")
	}
	for _, n := range odd {
		acts(t, "no round", r.Voted(n, late, 1, five))
		acts(t, "no kind", r.Voted(0, n, 1, five))
		acts(t, "no voter", r.Voted(0, late, n, five))
	}
	acts(t, "no thing", r.Voted(0, late, 1, zero))
	p := newPlain(4, 3, 0)
	p.Know(five)
	p.Begin(zero)
	p.Voted(0, early, 1, five)
	same(t, "what counts", r, p)
}

func TestOffered(t *testing.T) { // P14.4
	for n := range 12 {
		r := fresh(t, 4, 3, 0)
		for _, valid := range append([]int{n + 1}, odd[:4]...) {
			acts(t, "no Valid", r.Offered(n, valid, five))
		}
		for _, m := range odd {
			acts(t, "no round", r.Offered(m, 0, five))
			if r.Offer(m) != (round.Offer{}) {
				t.Errorf("Offer(%d)", m)
			}
		}
		acts(t, "no thing", r.Offered(n, 0, zero))
		acts(t, "nothing", r.Offered(n, 0, none))
		same(t, "refused offers", r, newPlain(4, 3, 0))
		acts(t, "an offer", r.Offered(n, n, six))
		acts(t, "a second one", r.Offered(n, 0, five))
		for m := range 12 {
			if want := (round.Offer{There: true, Valid: n, ID: six}); (r.Offer(m) == want) != (m == n) {
				t.Errorf("Offered(%d): Offer(%d): %v", n, m, r.Offer(m))
			}
		}
	}
}

func TestMaxKnown(t *testing.T) { // P14.4: 32 things, each once; the zero one isn't any
	for _, remember := range []bool{false, true} {
		r := fresh(t, 4, 3, 0)
		know := func(id api.ID) {
			if remember {
				r.Remember(id)
			} else {
				acts(t, "Know", r.Know(id))
			}
		}
		know(zero)
		for n := range 31 {
			know(api.ID{byte(n + 1)})
			know(api.ID{1})
			know(zero)
		}
		know(api.ID{0, 32})
		know(api.ID{0, 33})
		acts(t, "Begin", r.Begin(zero), timer(0, round.Propose))
		acts(t, "the first one", r.Offered(0, 0, api.ID{1}), vote(0, early, api.ID{1}))
		acts(t, "the next round", r.Timeout(0, round.Commit), timer(1, round.Propose))
		acts(t, "the 32nd one", r.Offered(1, 0, api.ID{0, 32}), vote(1, early, api.ID{0, 32}))
		acts(t, "the next round", r.Timeout(1, round.Commit), timer(2, round.Propose))
		acts(t, "the 33rd one", r.Offered(2, 0, api.ID{0, 33}))
		know(api.ID{0, 33})
		at(t, "the 33rd one", r, 2, round.Propose)
	}
}

func TestRememberDoesNothingYet(t *testing.T) { // P14.3, P14.4: the next call does it
	for _, call := range []func(*round.Round) []round.Act{
		func(r *round.Round) []round.Act { return r.Begin(six) },
		func(r *round.Round) []round.Act { return r.Know(zero) },
		func(r *round.Round) []round.Act { return r.Know(five) },
		func(r *round.Round) []round.Act { return r.Offered(2, 0, six) },
		func(r *round.Round) []round.Act { return r.Offered(-1, 0, six) },
		func(r *round.Round) []round.Act { return r.Voted(2, early, 3, six) },
		func(r *round.Round) []round.Act { return r.Timeout(1, round.Propose) },
	} {
		r := in(t, 2)
		acts(t, "Offered", r.Offered(2, 0, five))
		r.Remember(five)
		r.Fresh(six)
		at(t, "Remember", r, 2, round.Propose)
		acts(t, "the next call", call(r), vote(2, early, five))
	}
}
