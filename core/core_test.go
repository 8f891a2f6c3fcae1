package core_test

import (
	"bytes"
	"math"
	"slices"
	"strings"
	"testing"

	"scrivener/api"
	"scrivener/core"
	"scrivener/pack"
	"scrivener/round"
)

// odd is numbers that aren't any of a voter, a round, a kind or a height here.
var odd = []int{math.MinInt, -1, 12, 4711, math.MaxInt}

// fresh: a core that knows nothing yet.
func fresh(t *testing.T, voters, me, height int) *core.Core {
	t.Helper()
	c, e := core.New(voters, me, height)
	if e != api.OK {
		t.Fatalf("New(%d, %d, %d): %v", voters, me, height, e)
	}
	return c
}

// state is the message of somebody's votes, at the height 1.
func state(who int, ids ...api.ID) api.Msg {
	return api.Msg{Kind: 4, Who: who, Height: 1, IDs: ids}
}

// offer is the message of an offer, at the height 1: who proposes in a round is that round and one, by four.
func offer(n, valid int, batch string) api.Msg {
	return api.Msg{Kind: 3, Who: (1 + n) % 4, Height: 1, Round: n, Valid: valid, ID: id(batch), Data: []byte(batch)}
}

// value is the message of a batch that somebody has, at the height 1.
func value(who int, batch string) api.Msg {
	return api.Msg{Kind: 5, Who: who, Height: 1, Data: []byte(batch)}
}

// sent: is just this sent?
func sent(t *testing.T, what string, got []api.Msg, want ...api.Msg) {
	t.Helper()
	if !slices.EqualFunc(got, want, like) {
		t.Errorf("%s: %v, want %v", what, got, want)
	}
}

// at: is one in a round and a step, and do so many timers run?
func at(t *testing.T, what string, c *core.Core, n, step, timers int) {
	t.Helper()
	if a, b := c.Where(); a != n || b != step || c.Len() != timers {
		t.Errorf("%s: in the round %d, the step %d, with %d timers, want %d, %d, %d", what, a, b, c.Len(), n, step, timers)
	}
}

// done: is just this agreed upon?
func done(t *testing.T, what string, c *core.Core, want string, is bool) {
	t.Helper()
	if got, some := c.Done(); some != is || string(got) != want {
		t.Errorf("%s: Done %q, %v, want %q, %v", what, got, some, want, is)
	}
}

// in: one who joined, and is in a round, with its timer of Propose, or without one, if they propose there.
func in(t *testing.T, me, n int) *core.Core {
	t.Helper()
	c := fresh(t, 4, me, 1)
	sent(t, "Join", c.Join())
	if n > 0 {
		ids := make([]api.ID, 2*n+1)
		ids[2*n] = none
		for who := range 4 {
			if who != me && who != (me+1)%4 {
				sent(t, "a vote further on", c.Hear(who, state(who, ids...)))
			}
		}
	}
	return c
}

func TestLimits(t *testing.T) {
	if core.Propose != 3 || core.State != 4 || core.Value != 5 || core.MaxBatch != 4096 {
		t.Error("the limits")
	}
}

func TestID(t *testing.T) { // P16.1
	for _, batch := range []string{"", "x", "\x00", strings.Repeat("y", 4096), strings.Repeat("z", 70000)} {
		if core.ID([]byte(batch)) != id(batch) {
			t.Errorf("the ID of %d bytes", len(batch))
		}
	}
}

func TestNew(t *testing.T) { // P16.1
	for _, x := range []struct{ voters, me, height int }{
		{1, 0, pack.MaxNum + 1}, {4, 3, math.MaxInt}, {4, 0, -1}, {7, 0, math.MinInt},
		{4, 4, 1}, {4, -1, 1}, {1, 1, 1}, {7, 7, 1}, {4, math.MaxInt, 1}, {4, math.MinInt, 1},
		{0, 0, 1}, {-1, 0, 1}, {2, 0, 1}, {3, 0, 1}, {5, 0, 1}, {10, 0, 1}, {math.MinInt, 0, 1}, {math.MaxInt, 0, 1},
	} {
		if c, e := core.New(x.voters, x.me, x.height); c != nil || e != api.ErrRange {
			t.Errorf("New(%d, %d, %d): %v, %v", x.voters, x.me, x.height, c, e)
		}
	}
	for _, height := range []int{0, 1, pack.MaxNum} {
		for _, voters := range []int{1, 4, 7} {
			for me := range voters {
				c := fresh(t, voters, me, height)
				at(t, "a new one", c, -1, round.Over, 0)
				done(t, "a new one", c, "", false)
				if m, some := c.State(); some || !like(m, api.Msg{Kind: 4, Who: me, Height: height}) {
					t.Errorf("State: %v, %v", m, some)
				}
				sent(t, "a tick of a new one", c.Tick())
			}
		}
	}
}

func TestOneAlone(t *testing.T) { // the example
	for _, height := range []int{0, 7, pack.MaxNum} {
		c := fresh(t, 1, 0, height)
		first := api.Msg{Kind: 3, Height: height, ID: id("x"), Data: []byte("x")}
		votes := api.Msg{Kind: 4, Height: height, IDs: []api.ID{id("x"), id("x")}}
		sent(t, "Begin", c.Begin([]byte("x")), first, votes)
		done(t, "Begin", c, "x", true)
		at(t, "Begin", c, 0, round.Over, 0)
		sent(t, "Tick", c.Tick(), first, api.Msg{Kind: 5, Height: height, Data: []byte("x")}, votes)
		sent(t, "Begin again", c.Begin([]byte("y")))
		sent(t, "Join", c.Join())
		sent(t, "Suggest", c.Suggest([]byte("z")))
		done(t, "all of it", c, "x", true)
	}
}

func TestEmptyBatch(t *testing.T) { // it is one as others are
	c := fresh(t, 1, 0, 1)
	sent(t, "Begin", c.Begin(nil), api.Msg{Kind: 3, Height: 1, ID: id("")}, state(0, id(""), id("")))
	done(t, "Begin", c, "", true)
	sent(t, "Tick", c.Tick(), api.Msg{Kind: 3, Height: 1, ID: id("")}, value(0, ""), state(0, id(""), id("")))
}

func TestOneRound(t *testing.T) { // P16.2, P16.3
	c := fresh(t, 4, 3, 1)
	sent(t, "Begin", c.Begin([]byte("mine")))
	at(t, "Begin", c, 0, round.Propose, 1)
	sent(t, "the offer", c.Hear(1, offer(0, 0, "x")), state(3, id("x")))
	at(t, "the offer", c, 0, round.Vote, 1)
	sent(t, "an early vote", c.Hear(0, state(0, id("x"))))
	at(t, "an early vote", c, 0, round.Vote, 1)
	sent(t, "a third one", c.Hear(1, state(1, id("x"))), state(3, id("x"), id("x")))
	at(t, "a third one", c, 0, round.Commit, 1)
	sent(t, "the same once more", c.Hear(1, state(1, id("x"))))
	sent(t, "a late vote", c.Hear(0, state(0, id("x"), id("x"))))
	done(t, "a late vote", c, "", false)
	sent(t, "another one", c.Hear(2, state(2, zero, id("y"))))
	at(t, "another one", c, 0, round.Commit, 2)
	sent(t, "a fourth one", c.Hear(1, state(1, id("x"), id("x"))))
	done(t, "a fourth one", c, "x", true)
	at(t, "a fourth one", c, 0, round.Over, 0)
	sent(t, "Tick", c.Tick(), value(3, "x"), state(3, id("x"), id("x")))
}

func TestProposing(t *testing.T) { // P16.2, P16.3: what one begins with, what was suggested, or nothing
	mine := offer(0, 0, "mine")
	c := fresh(t, 4, 1, 1)
	sent(t, "Begin", c.Begin([]byte("mine")), mine, state(1, id("mine")))
	at(t, "Begin", c, 0, round.Vote, 0)
	sent(t, "Begin again", c.Begin([]byte("other")))
	sent(t, "Tick", c.Tick(), mine, state(1, id("mine")))

	c = fresh(t, 4, 1, 1)
	sent(t, "Suggest", c.Suggest([]byte("other")))
	at(t, "Suggest", c, -1, round.Over, 0)
	sent(t, "Suggest", c.Suggest([]byte("mine")))
	sent(t, "Join", c.Join(), mine, state(1, id("mine")))

	c = fresh(t, 4, 1, 1)
	c.Suggest([]byte("other"))
	sent(t, "Begin behind Suggest", c.Begin([]byte("mine")), mine, state(1, id("mine")))

	c = fresh(t, 4, 1, 1)
	sent(t, "Join with nothing", c.Join())
	at(t, "Join with nothing", c, 0, round.Propose, 1)
	sent(t, "Suggest too late", c.Suggest([]byte("other")))
	sent(t, "Begin too late", c.Begin([]byte("other")))
	at(t, "too late", c, 0, round.Propose, 1)
	sent(t, "a tick", c.Tick())

	c = in(t, 2, 0)
	sent(t, "Suggest", c.Suggest([]byte("other")))
	sent(t, "a vote further on", c.Hear(0, state(0, zero, zero, none)))
	sent(t, "another one", c.Hear(3, state(3, zero, zero, none)), offer(1, 0, "other"), state(2, zero, zero, id("other")))
	at(t, "a round further on", c, 1, round.Vote, 2)
	sent(t, "Tick", c.Tick(), offer(1, 0, "other"), state(2, zero, zero, id("other")))
}

func TestMaxBatch(t *testing.T) { // P16.3
	most, more := bytes.Repeat([]byte("x"), 4096), bytes.Repeat([]byte("x"), 4097)
	c := fresh(t, 4, 1, 1)
	sent(t, "too long a batch", c.Begin(more))
	at(t, "too long a batch", c, -1, round.Over, 0)
	sent(t, "too long a suggestion", c.Suggest(more))
	sent(t, "Join", c.Join())
	at(t, "nothing was suggested", c, 0, round.Propose, 1)
	c = fresh(t, 4, 1, 1)
	sent(t, "the longest suggestion", c.Suggest(most))
	sent(t, "too long a suggestion", c.Suggest(more))
	sent(t, "Join", c.Join(), offer(0, 0, string(most)), state(1, id(string(most))))
	c = fresh(t, 4, 1, 1)
	sent(t, "the longest batch", c.Begin(most), offer(0, 0, string(most)), state(1, id(string(most))))
	c = in(t, 3, 0)
	sent(t, "too long an offer", c.Hear(1, offer(0, 0, string(more))))
	long := state(2, none)
	long.Data = more
	sent(t, "too much beside votes", c.Hear(2, long))
	if c.Vote(0, 0, 2) != zero || c.Offer(0).There {
		t.Error("what is too long counts for nothing")
	}
	long.Data = most
	sent(t, "as much beside votes", c.Hear(2, long))
	if c.Vote(0, 0, 2) != none {
		t.Error("what is as long counts")
	}
	sent(t, "the longest offer", c.Hear(1, offer(0, 0, string(most))), state(3, id(string(most))))
	sure := state(0, id(string(most)), id(string(most)))
	sent(t, "a vote", c.Hear(0, sure))
	sent(t, "another one", c.Hear(1, sure), state(3, id(string(most)), id(string(most))))
	done(t, "the longest batch", c, string(most), true)
}

func TestWhoIsHeard(t *testing.T) { // P16.3: others alone, at this height; what it says of Who counts for nothing
	for _, from := range append([]int{3, 4, 7}, odd...) {
		c := in(t, 3, 0)
		for _, m := range []api.Msg{offer(0, 0, "x"), state(from, none), value(from, "x")} {
			sent(t, "somebody else", c.Hear(from, m))
		}
		at(t, "somebody else", c, 0, round.Propose, 1)
		if c.Own(0) != [2]api.ID{} || c.Offer(0).There {
			t.Errorf("from %d", from)
		}
	}
	for _, height := range append([]int{0, 2}, odd...) {
		c := in(t, 3, 0)
		for i, m := range []api.Msg{offer(0, 0, "x"), state(1, none), value(1, "x")} {
			m.Height = height
			sent(t, "another height", c.Hear(1, m))
			if c.Vote(0, 0, 1) != zero || c.Offer(0).There {
				t.Errorf("of the height %d: the message %d", height, i)
			}
		}
	}
	c := in(t, 3, 0)
	m := offer(0, 0, "x")
	m.Who, m.Num, m.ID = 2, 9, id("another")
	sent(t, "an offer under another name", c.Hear(1, m), state(3, id("x")))
	sent(t, "votes under another name", c.Hear(0, state(2, none)))
	if c.Vote(0, 0, 0) != none || c.Vote(0, 0, 2) != zero {
		t.Error("the votes are of who sends them")
	}
}

func TestOffers(t *testing.T) { // P16.3: Propose
	for n := range 12 {
		c := fresh(t, 4, 0, 1)
		for from := 1; from < 4; from++ {
			if from != (1+n)%4 {
				sent(t, "from another one", c.Hear(from, offer(n, 0, "x")))
			}
		}
		if c.Offer(n).There {
			t.Errorf("of the round %d: from another one", n)
		}
		if (1+n)%4 == 0 {
			continue
		}
		sent(t, "an offer", c.Hear((1+n)%4, offer(n, n, "x")))
		sent(t, "another one", c.Hear((1+n)%4, offer(n, 0, "y")))
		for m := range 12 {
			if want := (round.Offer{There: true, Valid: n, ID: id("x")}); (c.Offer(m) == want) != (m == n) {
				t.Errorf("an offer of the round %d: Offer(%d): %v", n, m, c.Offer(m))
			}
		}
	}
	c := fresh(t, 4, 0, 1)
	for _, n := range append([]int{13, 16}, odd...) {
		m := offer(0, 0, "x")
		m.Round = n
		for from := 1; from < 4; from++ {
			sent(t, "of no round", c.Hear(from, m))
		}
	}
	for _, valid := range append([]int{1, 2}, odd...) {
		sent(t, "of a wrong Valid", c.Hear(1, offer(0, valid, "x")))
		if c.Offer(0).There {
			t.Errorf("of the Valid %d", valid)
		}
	}
}

// sure: whom of four voted for a batch, early and late, in the round 0.
func sure(t *testing.T, c *core.Core, batch string, whom ...int) {
	t.Helper()
	for _, who := range whom {
		sent(t, "votes", c.Hear(who, state(who, id(batch), id(batch))))
	}
}

func TestWhatIsLearnt(t *testing.T) { // P16.2, P16.3: what is sure late is done when it is known
	for what, learn := range map[string]struct {
		call func(c *core.Core) []api.Msg
		is   bool
	}{
		"Begin":                     {func(c *core.Core) []api.Msg { return c.Begin([]byte("x")) }, true},
		"Begin with another":        {func(c *core.Core) []api.Msg { return c.Begin([]byte("y")) }, false},
		"Suggest":                   {func(c *core.Core) []api.Msg { return c.Suggest([]byte("x")) }, true},
		"Suggest another":           {func(c *core.Core) []api.Msg { return c.Suggest([]byte("y")) }, false},
		"Join":                      {func(c *core.Core) []api.Msg { return c.Join() }, false},
		"an offer":                  {func(c *core.Core) []api.Msg { return c.Hear(1, offer(0, 0, "x")) }, true},
		"an offer of another round": {func(c *core.Core) []api.Msg { return c.Hear(1, offer(4, 0, "x")) }, true},
		"an offer with a wrong Valid": {func(c *core.Core) []api.Msg { // learnt, but no offer
			return c.Hear(1, offer(4, 5, "x"))
		}, true},
		"an offer from another": {func(c *core.Core) []api.Msg { return c.Hear(2, offer(0, 0, "x")) }, false},
		"an offer of no round": {func(c *core.Core) []api.Msg {
			m := offer(0, 0, "x")
			m.Round = 12
			return c.Hear(1, m)
		}, false},
		"an offer of another batch": {func(c *core.Core) []api.Msg { // whatever it says of its ID
			m := offer(0, 0, "y")
			m.ID = id("x")
			return c.Hear(1, m)
		}, false},
		"a second offer": {func(c *core.Core) []api.Msg {
			c.Hear(1, offer(0, 0, "y"))
			return c.Hear(1, offer(0, 0, "x"))
		}, false},
		"a Value":              {func(c *core.Core) []api.Msg { return c.Hear(2, value(2, "x")) }, true},
		"a Value of another":   {func(c *core.Core) []api.Msg { return c.Hear(2, value(2, "y")) }, false},
		"a Value, one's own":   {func(c *core.Core) []api.Msg { return c.Hear(3, value(3, "x")) }, false},
		"a batch beside votes": {func(c *core.Core) []api.Msg { return c.Hear(2, api.Msg{Kind: 4, Height: 1, Data: []byte("x")}) }, false},
		"a batch of a kind 2":  {func(c *core.Core) []api.Msg { return c.Hear(2, api.Msg{Kind: 2, Height: 1, Data: []byte("x")}) }, false},
		"a batch of a kind 6":  {func(c *core.Core) []api.Msg { return c.Hear(2, api.Msg{Kind: 6, Height: 1, Data: []byte("x")}) }, false},
		"a batch of no kind":   {func(c *core.Core) []api.Msg { return c.Hear(2, api.Msg{Height: 1, Data: []byte("x")}) }, false},
		"a batch of a kind -1": {func(c *core.Core) []api.Msg { return c.Hear(2, api.Msg{Kind: -1, Height: 1, Data: []byte("x")}) }, false},
		"a batch of a kind max": {func(c *core.Core) []api.Msg {
			return c.Hear(2, api.Msg{Kind: math.MaxInt, Height: 1, Data: []byte("x")})
		}, false},
	} {
		c := in(t, 3, 0)
		sure(t, c, "x", 0, 1, 2)
		at(t, "not known", c, 0, round.Propose, 2)
		done(t, "not known", c, "", false)
		learn.call(c)
		batch := ""
		if learn.is {
			batch = "x"
			at(t, what, c, 0, round.Over, 0)
		}
		done(t, what, c, batch, learn.is)
	}
}

func TestVotes(t *testing.T) { // P16.3: State
	ids := make([]api.ID, 30)
	for i := range ids {
		if i%3 > 0 {
			ids[i] = api.ID{byte(i)}
		}
	}
	for size := range len(ids) + 1 {
		c := fresh(t, 4, 3, 1)
		sent(t, "votes", c.Hear(2, state(2, ids[:size]...)))
		sent(t, "votes", c.Hear(0, state(0, slices.Repeat([]api.ID{{99}}, size)...)))
		sent(t, "other votes", c.Hear(2, state(2, slices.Repeat([]api.ID{{99}}, 3)...)))
		for i := range 24 {
			want := zero
			if i < size {
				want = ids[i]
			}
			if i < 3 && want == zero {
				want = api.ID{99}
			}
			if c.Vote(i/2, i%2, 2) != want {
				t.Errorf("of %d votes that at %d", size, i)
			}
			if (c.Vote(i/2, i%2, 0) == api.ID{99}) != (i < size) || c.Vote(i/2, i%2, 1) != zero || c.Vote(i/2, i%2, 3) != zero {
				t.Errorf("of %d votes: somebody else's at %d", size, i)
			}
		}
	}
}

func TestVotesAreTakenOneByOne(t *testing.T) { // P16.2, P16.3: what comes of each is done ahead of the next, and State is sent once
	c := in(t, 3, 0)
	sent(t, "the offer", c.Hear(1, offer(0, 0, "x")), state(3, id("x")))
	sent(t, "one's votes", c.Hear(0, state(0, id("x"), id("x"), id("x"))))
	sent(t, "another one's", c.Hear(1, state(1, id("x"), id("x"), id("x"))), state(3, id("x"), id("x")))
	done(t, "another one's", c, "x", true)
	at(t, "another one's", c, 0, round.Over, 0)
}

func TestOwnVotes(t *testing.T) { // P16.1: State
	c := in(t, 3, 1)
	at(t, "the round 1", c, 1, round.Propose, 2)
	if m, some := c.State(); some || !like(m, state(3)) {
		t.Errorf("none: %v, %v", m, some)
	}
	sent(t, "the offer", c.Hear(2, offer(1, 0, "x")), state(3, zero, zero, id("x")))
	c.Recall(state(3, zero, none, zero, zero, none, zero, none, id("y"), zero, zero))
	if m, some := c.State(); !some || !like(m, state(3, zero, none, id("x"), zero, none, zero, none, id("y"))) {
		t.Errorf("State: %v, %v", m, some)
	}
	last := make([]api.ID, 24)
	last[23] = none
	c.Recall(state(3, last...))
	m, some := c.State()
	if want := state(3, append([]api.ID{zero, none, id("x"), zero, none, zero, none, id("y")}, last[8:]...)...); !some || !like(m, want) {
		t.Errorf("24 votes: %v, %v", m, some)
	}
}

func TestOneValueOfEach(t *testing.T) { // P16.3
	c := in(t, 3, 0)
	sent(t, "too long a Value", c.Hear(1, value(1, strings.Repeat("x", 4097))))
	at2 := value(1, "x")
	at2.Height = 2
	sent(t, "a Value of another height", c.Hear(1, at2))
	sent(t, "a Value", c.Hear(1, value(1, "y")))
	sent(t, "the same", c.Hear(1, value(1, "y")))
	sent(t, "a second Value", c.Hear(1, value(1, "x")))
	sure(t, c, "x", 0, 1, 2)
	done(t, "a second Value", c, "", false)
	sent(t, "a second Value", c.Hear(1, value(1, "x")))
	done(t, "a second Value", c, "", false)
	sent(t, "another one's", c.Hear(2, value(1, "x")))
	done(t, "another one's", c, "x", true)
	c = in(t, 3, 0)
	sent(t, "an offer", c.Hear(1, offer(0, 0, "y")), state(3, id("y")))
	sure(t, c, "x", 0, 1, 2)
	sent(t, "a Value behind an offer", c.Hear(1, value(1, "x")))
	done(t, "a Value behind an offer", c, "x", true)
}

func TestTimersAreSet(t *testing.T) { // P16.2, P16.4
	c := in(t, 3, 0)
	sent(t, "a tick", c.Tick())
	sent(t, "another one", c.Tick())
	at(t, "two ticks", c, 0, round.Propose, 1)
	early := state(3, none)
	sent(t, "the third", c.Tick(), early, early)
	at(t, "the third", c, 0, round.Vote, 0)
	sent(t, "a vote", c.Hear(0, state(0, none)))
	at(t, "a vote", c, 0, round.Vote, 0)
	sent(t, "another one", c.Hear(1, state(1, id("x"))))
	at(t, "three votes", c, 0, round.Vote, 1)
	sent(t, "a tick", c.Tick(), early)
	sent(t, "another one", c.Tick(), early)
	both := state(3, none, none)
	sent(t, "the third", c.Tick(), both, both)
	at(t, "the third", c, 0, round.Commit, 0)
	sent(t, "a late vote", c.Hear(0, state(0, none, none)))
	sent(t, "another one", c.Hear(1, state(1, id("x"), id("x"))))
	at(t, "three late votes", c, 0, round.Commit, 1)
	sent(t, "a tick", c.Tick(), both)
	sent(t, "another one", c.Tick(), both)
	sent(t, "the third", c.Tick(), both)
	at(t, "the next round", c, 1, round.Propose, 1)
	for n := range 4 {
		sent(t, "a tick of the next round", c.Tick(), both)
		at(t, "a tick of the next round", c, 1, round.Propose, 1)
		if c.Now() != 10+n {
			t.Errorf("Now: %d", c.Now())
		}
	}
	third := state(3, none, none, none)
	sent(t, "the fifth", c.Tick(), third, third)
	at(t, "the fifth", c, 1, round.Vote, 0)
}

func TestActsOfATickAreDoneTogether(t *testing.T) { // P16.2, P16.4: several timers over; one State, behind the offers
	c := fresh(t, 4, 2, 1)
	c.Suggest([]byte("mine"))
	sent(t, "Join", c.Join())
	at(t, "Join", c, 0, round.Propose, 1)
	for _, who := range []int{0, 1} {
		sent(t, "late votes", c.Hear(who, state(who, none, none)))
	}
	sent(t, "a third one", c.Hear(3, state(3, zero, id("y"))))
	at(t, "three late votes", c, 0, round.Propose, 2)
	sent(t, "a tick", c.Tick())
	sent(t, "another one", c.Tick())
	votes := state(2, none, none, id("mine"))
	sent(t, "the third", c.Tick(), offer(1, 0, "mine"), votes, offer(1, 0, "mine"), votes)
	at(t, "the third", c, 1, round.Vote, 0)
}

func TestWhatIsSentOnceMore(t *testing.T) { // P16.4: the offer, a batch that is Best and known, and votes
	c := fresh(t, 4, 1, 1)
	c.Begin([]byte("x"))
	sent(t, "the offer", c.Tick(), offer(0, 0, "x"), state(1, id("x")))
	for _, who := range []int{0, 2} {
		c.Hear(who, state(who, id("x")))
	}
	sent(t, "what is Best", c.Tick(), offer(0, 0, "x"), value(1, "x"), state(1, id("x"), id("x")))
	ahead := []api.ID{zero, zero, none}
	for _, who := range []int{0, 2} {
		sent(t, "the next round", c.Hear(who, state(who, ahead...)))
	}
	at(t, "the next round", c, 1, round.Propose, 1)
	sent(t, "another round's offer is another's", c.Tick(), value(1, "x"), state(1, id("x"), id("x")))
	sent(t, "another one's offer", c.Hear(2, offer(1, 0, "y")), state(1, id("x"), id("x"), none, none))
	sent(t, "another one's offer", c.Tick(), value(1, "x"), state(1, id("x"), id("x"), none, none))
	ahead = append(ahead, zero, zero, zero, zero, zero, none)
	for _, who := range []int{0, 2} {
		c.Hear(who, state(who, ahead...))
	}
	at(t, "a round in which one proposes", c, 4, round.Vote, 2)
	mine := offer(4, 1, "x")
	sent(t, "what is Best, with its round", c.Tick(), mine, value(1, "x"), state(1, id("x"), id("x"), none, none, zero, zero, zero, zero, id("x")))

	c = fresh(t, 4, 0, 1)
	c.Recall(state(0, zero, id("x")))
	c.Join()
	sent(t, "Best isn't known", c.Tick(), state(0, zero, id("x")))
	sent(t, "now it is", c.Hear(3, value(3, "x")))
	sent(t, "now it is", c.Tick(), value(0, "x"), state(0, zero, id("x")))
	c = fresh(t, 4, 3, 1)
	c.Recall(state(3, zero, id("x")))
	c.Hear(0, state(0, zero, zero, zero, zero, none))
	sent(t, "an offer of what isn't known", c.Hear(1, state(1, zero, zero, zero, zero, none)), api.Msg{Kind: 3, Who: 3, Height: 1, Round: 2, Valid: 1, ID: id("x")})
	sent(t, "an offer of what isn't known", c.Tick(), api.Msg{Kind: 3, Who: 3, Height: 1, Round: 2, Valid: 1, ID: id("x")}, state(3, zero, id("x")))
}

func TestOffersOfOneWhoIsntTheProposer(t *testing.T) { // P16.4
	c := fresh(t, 4, 3, 1)
	c.Recall(offer(0, 0, "x"), state(3, none))
	c.Join()
	sent(t, "Tick", c.Tick(), state(3, none))
}

func TestRecall(t *testing.T) { // P16.5
	c := fresh(t, 1, 0, 7)
	own := c.Begin([]byte("x"))
	c = fresh(t, 1, 0, 7)
	c.Recall(own...)
	at(t, "Recall", c, 0, round.Commit, 0)
	done(t, "Recall", c, "", false)
	sent(t, "Join", c.Join())
	done(t, "Join", c, "x", true)

	c = fresh(t, 4, 1, 1)
	c.Recall(offer(0, 0, "mine"))
	at(t, "an offer", c, -1, round.Over, 0)
	sent(t, "Begin", c.Begin([]byte("other")), state(1, id("mine")))
	sent(t, "Tick", c.Tick(), offer(0, 0, "mine"), state(1, id("mine")))

	c = fresh(t, 4, 1, 1)
	c.Recall(state(1, none), offer(0, 0, "mine"), state(1, id("mine"), none), state(1, none, id("mine"), none))
	at(t, "the first counts", c, 1, round.Vote, 0)
	if m, some := c.State(); !some || !like(m, state(1, none, none, none)) {
		t.Errorf("State: %v", m)
	}
	if n, what := c.Lock(); n != 0 || what != zero {
		t.Errorf("Lock: %d, %v", n, what)
	}
	sent(t, "Begin", c.Begin([]byte("other")))
	at(t, "Begin", c, 1, round.Vote, 0)

	c = fresh(t, 4, 3, 1)
	c.Recall(offer(2, 1, "mine"), state(3, zero, zero, zero, zero, id("mine"), id("mine")))
	if c.Offer(2) != (round.Offer{There: true, Valid: 1, ID: id("mine")}) {
		t.Errorf("Offer: %v", c.Offer(2))
	}
	if n, what := c.Lock(); n != 3 || what != id("mine") {
		t.Errorf("Lock: %d, %v", n, what)
	}
	at(t, "a late vote", c, 2, round.Commit, 0)
	sent(t, "Tick", c.Tick(), offer(2, 1, "mine"), value(3, "mine"), state(3, zero, zero, zero, zero, id("mine"), id("mine")))
}

func TestRecallOfWhatCountsForNothing(t *testing.T) { // P16.5
	for _, height := range append([]int{0, 2}, odd...) {
		c := fresh(t, 4, 1, 1)
		m, v := offer(0, 0, "x"), state(1, none)
		m.Height, v.Height = height, height
		c.Recall(m, v)
		at(t, "another height", c, -1, round.Over, 0)
		c.Recall(m, offer(0, 0, "z"), v)
		sent(t, "another height", c.Begin([]byte("y")), state(1, id("z")))
	}
	for _, kind := range append([]int{0, 1, 2, 5, 6}, odd...) {
		c := in(t, 3, 0)
		sure(t, c, "x", 0, 1, 2)
		c.Recall(api.Msg{Kind: kind, Height: 1, ID: id("x"), Data: []byte("x"), IDs: []api.ID{none}})
		if c.Join(); c.Own(0) != [2]api.ID{} || c.Offer(0).There {
			t.Errorf("of the kind %d", kind)
		}
		done(t, "another kind", c, "", false)
	}
	c := fresh(t, 4, 1, 1)
	for _, n := range append([]int{-2, 13}, odd...) {
		m := offer(0, 0, "x")
		m.Round = n
		c.Recall(m)
		m.Round, m.Valid = 0, n
		c.Recall(m)
		if c.Offer(0).There || c.Offer(n).There {
			t.Errorf("of the round or the Valid %d", n)
		}
	}
	c.Recall()
	c.Recall(state(1))
	c.Recall(state(1, make([]api.ID, 24)...))
	c.Recall(state(1, append(make([]api.ID, 24), slices.Repeat([]api.ID{none}, 40)...)...))
	at(t, "nothing", c, -1, round.Over, 0)
	if m, some := c.State(); some {
		t.Errorf("nothing: %v", m)
	}
}

func TestRecallSendsNothing(t *testing.T) { // P16.5: it is known by it, and the next call does what is due
	for what, call := range map[string]func(c *core.Core) []api.Msg{
		"Join":    func(c *core.Core) []api.Msg { return c.Join() },
		"Begin":   func(c *core.Core) []api.Msg { return c.Begin([]byte("y")) },
		"Suggest": func(c *core.Core) []api.Msg { return c.Suggest([]byte("y")) },
		"a Value": func(c *core.Core) []api.Msg { return c.Hear(1, value(1, "y")) },
		"a vote":  func(c *core.Core) []api.Msg { return c.Hear(2, state(2, zero, zero, none)) },
	} {
		c := in(t, 3, 0)
		sure(t, c, "x", 0, 1, 2)
		m := offer(0, 0, "x")
		m.ID = zero // its Data tells it
		c.Recall(m)
		done(t, "Recall", c, "", false)
		sent(t, what, call(c))
		done(t, what, c, "x", true)
	}
}

func TestWhatCountsForNothingDoesNothing(t *testing.T) { // P16.3: not even what is due behind a Recall
	long := strings.Repeat("x", 4097)
	beyond := append(make([]api.ID, 24), none)
	kind := func(kind int) api.Msg {
		return api.Msg{Kind: kind, Height: 1, Data: []byte("y"), IDs: []api.ID{zero, zero, none}}
	}
	c := in(t, 3, 0)
	sure(t, c, "x", 0, 1, 2)
	sent(t, "a Value", c.Hear(1, value(1, "z")))
	c.Recall(offer(0, 0, "x"))
	for i, answer := range [][]api.Msg{
		c.Begin([]byte(long)), c.Suggest([]byte(long)), c.Hear(2, value(2, long)), c.Hear(3, value(3, "y")), c.Hear(4, value(4, "y")), c.Hear(-1, value(0, "y")),
		c.Hear(1, offer(0, 0, "y")), c.Hear(3, offer(2, 0, "y")), c.Hear(2, offer(0, 0, "y")), c.Hear(1, offer(12, 0, "y")),
		c.Hear(0, state(0)), c.Hear(0, state(0, zero, zero)), c.Hear(0, state(0, id("x"), id("x"))), c.Hear(0, state(0, id("y"))), c.Hear(0, state(0, beyond...)),
		c.Hear(1, value(1, "y")), c.Hear(2, kind(2)), c.Hear(2, kind(6)), c.Hear(2, kind(0)), c.Hear(2, api.Msg{Kind: 5, Height: 2}), c.Tick(),
	} {
		sent(t, "what counts for nothing", answer)
		at(t, "what counts for nothing", c, 0, round.Propose, 2)
		if t.Failed() {
			t.Fatalf("the call %d", i)
		}
	}
	done(t, "what counts for nothing", c, "", false)
	sent(t, "a vote that counts", c.Hear(0, state(0, zero, zero, none)))
	done(t, "a vote that counts", c, "x", true)
}

func TestMoreIsKnownThanARoundKnows(t *testing.T) { // P16.2: a Core knows each batch that it learnt; layer 14 knows 32
	c := fresh(t, 4, 1, 1)
	for n := range 32 {
		c.Suggest([]byte{byte(n)})
	}
	sent(t, "one more", c.Suggest([]byte("x")))
	sent(t, "Join", c.Join(), offer(0, 0, "x"))
	at(t, "Join", c, 0, round.Propose, 0)
}

// scribble writes over all that a message has, its spare room too.
func scribble(list ...api.Msg) {
	for _, m := range list {
		for i := range m.Data[:cap(m.Data)] {
			m.Data[:cap(m.Data)][i] = 0xee
		}
		for i := range m.IDs[:cap(m.IDs)] {
			m.IDs[:cap(m.IDs)][i] = api.ID{0xee}
		}
	}
}

func TestWhatIsAnsweredIsNew(t *testing.T) { // P2, rule 4
	c := fresh(t, 4, 1, 1)
	batch := append(make([]byte, 0, 9), "x"...)
	list := c.Begin(batch)
	batch[:2][1] = 'y'
	if string(batch) != "x" {
		t.Error("Begin changes its batch")
	}
	scribble(list...)
	batch[0] = 'z'
	want := []api.Msg{offer(0, 0, "x"), value(1, "x"), state(1, id("x"), id("x"))}
	for _, who := range []int{0, 2} {
		m := state(who, id("x"))
		answer := c.Hear(who, m)
		if !like(m, state(who, id("x"))) {
			t.Error("Hear changes its message")
		}
		scribble(m)
		scribble(answer...)
	}
	first, second := c.Tick(), c.Tick()
	scribble(first...)
	sent(t, "another answer", second, want...)
	one, _ := c.State()
	another, _ := c.State()
	scribble(one)
	sent(t, "another State", []api.Msg{another}, want[2])
	for _, who := range []int{0, 2} {
		c.Hear(who, state(who, id("x"), id("x")))
	}
	got, _ := c.Done()
	again, _ := c.Done()
	scribble(api.Msg{Data: got})
	if string(again) != "x" {
		t.Error("another Done")
	}
	done(t, "what is kept", c, "x", true)
	sent(t, "what is kept", c.Tick(), want...)
}

func TestWhatIsHandedInIsntKept(t *testing.T) { // P2, rule 4
	for what, learn := range map[string]func(c *core.Core, m api.Msg){
		"Suggest":  func(c *core.Core, m api.Msg) { c.Suggest(m.Data) },
		"an offer": func(c *core.Core, m api.Msg) { c.Hear(1, m) },
		"a Value":  func(c *core.Core, m api.Msg) { c.Hear(2, value(2, string(m.Data))) },
		"Recall":   func(c *core.Core, m api.Msg) { c.Recall(m) },
	} {
		c := fresh(t, 4, 3, 1)
		m := offer(0, 0, "x")
		learn(c, m)
		if !like(m, offer(0, 0, "x")) {
			t.Errorf("%s: it is changed", what)
		}
		scribble(m)
		sure(t, c, "x", 0, 1, 2)
		c.Join()
		done(t, what, c, "x", true)
	}
}

func TestCoresAreApart(t *testing.T) { // rule 4
	c, d := fresh(t, 4, 1, 1), fresh(t, 4, 1, 1)
	c.Begin([]byte("x"))
	at(t, "another core", d, -1, round.Over, 0)
	sent(t, "another core", d.Tick())
	sent(t, "another core", d.Begin([]byte("y")), offer(0, 0, "y"), state(1, id("y")))
	sent(t, "the first", c.Tick(), offer(0, 0, "x"), state(1, id("x")))
}

func TestAllArguments(t *testing.T) { // P1
	numbers := append([]int{0, 1, 2, 3, 4, 5, 11, 24}, odd...)
	datas := [][]byte{nil, {}, []byte("x"), make([]byte, 5000)}
	lists := [][]api.ID{nil, {}, {none}, make([]api.ID, 100), slices.Repeat([]api.ID{none}, 100), slices.Repeat([]api.ID{id("x")}, 25)}
	for _, voters := range []int{1, 4, 7} {
		for _, begun := range []bool{false, true} {
			x := newPair(t, voters, 0, 1)
			if begun {
				x.Begin([]byte("x"))
			}
			for _, from := range numbers {
				for _, kind := range numbers {
					for _, n := range numbers {
						m := api.Msg{Kind: kind, Who: n, Height: 1, Round: n, Valid: from, Num: n, Data: datas[(n&3+kind&3)%4], IDs: lists[(n&7+from&7)%6]}
						x.Hear(from, m)
						m.Height = n
						x.Hear(from, m)
					}
				}
			}
			for _, kind := range numbers {
				for _, n := range numbers {
					x.Recall(api.Msg{Kind: kind, Who: n, Height: 1, Round: n, Valid: n, Num: n, Data: datas[kind&3], IDs: lists[(n&7+kind&7)%6]})
				}
			}
			for _, data := range datas {
				x.Begin(data)
				x.Suggest(data)
			}
			x.Join()
			for range 700 {
				x.Tick()
			}
		}
	}
}
