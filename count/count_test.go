package count_test

import (
	"math"
	"math/rand"
	"testing"

	"scrivener/api"
	"scrivener/count"
)

// faults: of how many voters how many may be faulty, as the chapter has it.
var faults = map[int]int{1: 0, 4: 1, 7: 2}

// odd are numbers that are no rounds, kinds or voters.
var odd = []int{math.MinInt, math.MinInt32, -12, -1, 12, 13, 256, math.MaxInt32, math.MaxInt - 1, math.MaxInt}

// cast is a vote.
type cast struct {
	round, kind, who int
	id               api.ID
}

// plain is a count as plain as may be.
type plain struct {
	voters int
	votes  []cast
}

// put: the rules of Put, one by one.
func (p *plain) put(v cast) api.Errno {
	if v.round < 0 || v.round > 11 || v.kind < 0 || v.kind > 1 || v.who < 0 || v.who >= p.voters || v.id == (api.ID{}) {
		return api.ErrRange
	}
	if p.get(v.round, v.kind, v.who) != (api.ID{}) {
		return api.ErrTwice
	}
	p.votes = append(p.votes, v)
	return api.OK
}

// get: somebody's vote.
func (p *plain) get(round, kind, who int) api.ID {
	for _, v := range p.votes {
		if v.round == round && v.kind == kind && v.who == who {
			return v.id
		}
	}
	return api.ID{}
}

// tally: how many votes of a kind in a round there are for each thing.
func (p *plain) tally(round, kind int) map[api.ID]int {
	n := map[api.ID]int{}
	for _, v := range p.votes {
		if v.round == round && v.kind == kind {
			n[v.id]++
		}
	}
	return n
}

// sure: that for which enough votes are.
func (p *plain) sure(round, kind int) (api.ID, bool) {
	for id, n := range p.tally(round, kind) {
		if n >= 2*faults[p.voters]+1 {
			return id, true
		}
	}
	return api.ID{}, false
}

// ahead: the greatest round above one in which enough have a vote.
func (p *plain) ahead(round int) (int, bool) {
	for n := 11; n >= 0 && n > round; n-- {
		seen := map[int]bool{}
		for _, v := range p.votes {
			if v.round == n {
				seen[v.who] = true
			}
		}
		if len(seen) > faults[p.voters] {
			return n, true
		}
	}
	return 0, false
}

// fresh: a count without votes, and a plain one.
func fresh(t *testing.T, voters int) (*count.Count, *plain) {
	t.Helper()
	c, e := count.New(voters)
	if e != api.OK || c == nil {
		t.Fatalf("New(%d): %v", voters, e)
	}
	return c, &plain{voters: voters}
}

// puts: does Put answer as the plain one, and leave as much?
func puts(t *testing.T, c *count.Count, p *plain, v cast, want api.Errno) {
	t.Helper()
	if e := c.Put(v.round, v.kind, v.who, v.id); e != want || p.put(v) != want {
		t.Errorf("Put(%d, %d, %d, %v): %v, want %v", v.round, v.kind, v.who, v.id[:2], e, want)
	}
}

// same: does a count tell what the plain one tells?
func same(t *testing.T, what string, c *count.Count, p *plain) {
	t.Helper()
	rounds := append([]int{0, 1, 2, 3, 4, 5, 6, 7, 8, 9, 10, 11}, odd...)
	for _, round := range rounds {
		for kind := -1; kind <= 2; kind++ {
			sameVotes(t, what, c, p, round, kind)
		}
		n, found := c.Ahead(round)
		if m, want := p.ahead(round); n != m || found != want {
			t.Errorf("%s: Ahead(%d): %d, %v, want %d, %v", what, round, n, found, m, want)
		}
	}
}

// sameVotes: the same, of a round's votes of a kind.
func sameVotes(t *testing.T, what string, c *count.Count, p *plain, round, kind int) {
	t.Helper()
	all, each := 0, p.tally(round, kind)
	for who := range p.voters {
		if id := p.get(round, kind, who); c.Get(round, kind, who) != id {
			t.Errorf("%s: Get(%d, %d, %d)", what, round, kind, who)
		} else if c.For(round, kind, id) != each[id] {
			t.Errorf("%s: For(%d, %d, %v): %d, want %d", what, round, kind, id[:2], c.For(round, kind, id), each[id])
		}
	}
	for _, n := range each {
		all += n
	}
	if c.All(round, kind) != all {
		t.Errorf("%s: All(%d, %d): %d, want %d", what, round, kind, c.All(round, kind), all)
	}
	for _, id := range []api.ID{{}, {255}, count.Nil()} {
		if c.For(round, kind, id) != each[id] {
			t.Errorf("%s: For(%d, %d, %v): %d", what, round, kind, id, c.For(round, kind, id))
		}
	}
	id, found := c.Sure(round, kind)
	if want, some := p.sure(round, kind); id != want || found != some {
		t.Errorf("%s: Sure(%d, %d): %v, %v, want %v, %v", what, round, kind, id[:2], found, want[:2], some)
	}
}

func TestNames(t *testing.T) { // P13.1, P13.2
	if count.Prevote != 0 || count.Precommit != 1 || count.MaxRounds != 12 {
		t.Error("the kinds, or MaxRounds")
	}
	want := api.ID{}
	want[31] = 1
	if count.Nil() != want {
		t.Errorf("Nil: %v", count.Nil())
	}
}

func TestVoters(t *testing.T) { // P13.1
	for voters := -20; voters < 300; voters++ {
		sameVoters(t, voters)
	}
	for _, voters := range odd {
		sameVoters(t, voters)
	}
}

// sameVoters: are there counts of so many voters, and what do Faults and Need tell of them?
func sameVoters(t *testing.T, voters int) {
	t.Helper()
	want, some := faults[voters]
	c, e := count.New(voters)
	if !some {
		if count.Faults(voters) >= 0 || c != nil || e != api.ErrRange {
			t.Errorf("of %d: Faults %d, New %v", voters, count.Faults(voters), e)
		}
		count.Need(voters) // whatever it is
		return
	}
	if count.Faults(voters) != want || count.Need(voters) != 2*want+1 {
		t.Errorf("of %d: Faults %d, Need %d", voters, count.Faults(voters), count.Need(voters))
	}
	if c == nil || e != api.OK {
		t.Fatalf("New(%d): %v", voters, e)
	}
	same(t, "a new one", c, &plain{voters: voters})
}

func TestPutRefusesWhatIsOutside(t *testing.T) { // P13.2
	for voters := range faults {
		c, p := fresh(t, voters)
		for _, n := range odd {
			puts(t, c, p, cast{n, 0, 0, api.ID{1}}, api.ErrRange)
			puts(t, c, p, cast{0, n, 0, api.ID{1}}, api.ErrRange)
			puts(t, c, p, cast{0, 0, n, api.ID{1}}, api.ErrRange)
		}
		puts(t, c, p, cast{0, 2, 0, api.ID{1}}, api.ErrRange)
		puts(t, c, p, cast{0, 0, voters, api.ID{1}}, api.ErrRange)
		puts(t, c, p, cast{0, 0, 0, api.ID{}}, api.ErrRange)
		same(t, "behind refused ones", c, p)
		puts(t, c, p, cast{0, 0, 0, api.ID{1}}, api.OK)
		puts(t, c, p, cast{11, 1, voters - 1, api.ID{31: 2}}, api.OK)
		puts(t, c, p, cast{0, 0, 0, api.ID{}}, api.ErrRange) // ahead of ErrTwice
		same(t, "at the edges", c, p)
	}
}

func TestTheFirstVoteAloneCounts(t *testing.T) { // P13.2
	c, p := fresh(t, 4)
	puts(t, c, p, cast{3, count.Prevote, 2, api.ID{7}}, api.OK)
	puts(t, c, p, cast{3, count.Prevote, 2, api.ID{8}}, api.ErrTwice)
	puts(t, c, p, cast{3, count.Prevote, 2, api.ID{7}}, api.ErrTwice)
	puts(t, c, p, cast{3, count.Prevote, 2, count.Nil()}, api.ErrTwice)
	same(t, "one vote", c, p)
	puts(t, c, p, cast{3, count.Precommit, 2, api.ID{8}}, api.OK)
	puts(t, c, p, cast{4, count.Prevote, 2, api.ID{8}}, api.OK)
	puts(t, c, p, cast{3, count.Prevote, 3, api.ID{8}}, api.OK)
	puts(t, c, p, cast{3, count.Precommit, 2, api.ID{7}}, api.ErrTwice)
	same(t, "four votes", c, p)
}

func TestSure(t *testing.T) { // P13.2, and the chapter's example
	for voters, f := range faults {
		for _, id := range []api.ID{{7}, count.Nil(), {31: 2}} {
			for kind := range 2 {
				c, p := fresh(t, voters)
				for who := range voters {
					if got, found := c.Sure(5, kind); found != (who > 2*f) || found && got != id || !found && got != (api.ID{}) {
						t.Errorf("%d of %d votes: Sure %v, %v", who, voters, got, found)
					}
					puts(t, c, p, cast{5, kind, voters - 1 - who, id}, api.OK)
					same(t, "one vote more", c, p)
				}
			}
		}
	}
}

func TestSureOfVotesThatPart(t *testing.T) { // P13.2: of one kind, in one round, for one thing
	for _, voters := range []int{4, 7} {
		c, p := fresh(t, voters)
		need := 2*faults[voters] + 1
		for who := range need - 1 {
			puts(t, c, p, cast{2, 0, who, api.ID{7}}, api.OK)
		}
		puts(t, c, p, cast{2, 1, need - 1, api.ID{7}}, api.OK)
		puts(t, c, p, cast{3, 0, need - 1, api.ID{7}}, api.OK)
		puts(t, c, p, cast{2, 0, need - 1, api.ID{8}}, api.OK)
		if id, found := c.Sure(2, 0); found || id != (api.ID{}) || c.All(2, 0) != need || c.For(2, 0, api.ID{7}) != need-1 {
			t.Errorf("of %d: Sure %v, %v", voters, id, found)
		}
		same(t, "not sure", c, p)
		puts(t, c, p, cast{2, 0, need, api.ID{7}}, api.OK)
		if id, found := c.Sure(2, 0); !found || id != (api.ID{7}) {
			t.Errorf("of %d: Sure %v, %v", voters, id, found)
		}
		same(t, "sure", c, p)
	}
}

func TestAhead(t *testing.T) { // P13.3: voters count, not votes; of whatever kind, and for whatever
	for voters, f := range faults {
		c, p := fresh(t, voters)
		for who := range f {
			puts(t, c, p, cast{9, 0, who, api.ID{7}}, api.OK)
			puts(t, c, p, cast{9, 1, who, api.ID{7}}, api.OK)
			same(t, "too few voters", c, p)
		}
		puts(t, c, p, cast{8, 0, voters - 1, api.ID{7}}, api.OK) // of another round
		if n, found := c.Ahead(8); n != 0 || found {
			t.Errorf("of %d: Ahead of too few: %d, %v", voters, n, found)
		}
		puts(t, c, p, cast{9, 1, f, count.Nil()}, api.OK)
		for round, want := range map[int]bool{math.MinInt: true, -1: true, 0: true, 8: true, 9: false, 10: false, math.MaxInt: false} {
			if n, found := c.Ahead(round); found != want || want && n != 9 || !want && n != 0 {
				t.Errorf("of %d: Ahead(%d): %d, %v", voters, round, n, found)
			}
		}
		same(t, "enough voters", c, p)
	}
}

func TestAheadIsTheGreatest(t *testing.T) { // P13.3
	for voters, f := range faults {
		c, p := fresh(t, voters)
		for _, round := range []int{3, 11, 0, 6} {
			for who := range f + 1 {
				puts(t, c, p, cast{round, who % 2, who, api.ID{byte(who + 1)}}, api.OK)
			}
			same(t, "a round more", c, p)
		}
		for round, want := range map[int]int{-1: 11, 0: 11, 10: 11} {
			if n, found := c.Ahead(round); n != want || !found {
				t.Errorf("of %d: Ahead(%d): %d, %v", voters, round, n, found)
			}
		}
		if n, found := c.Ahead(11); n != 0 || found {
			t.Errorf("of %d: Ahead(11): %d, %v", voters, n, found)
		}
	}
}

func TestDrawnVotes(t *testing.T) { // P13.1 to P13.3
	r := rand.New(rand.NewSource(13))
	for voters := range faults {
		for range 30 {
			c, p := fresh(t, voters)
			for range 40 {
				v := cast{r.Intn(4) * 11 / 3, r.Intn(2), r.Intn(voters), api.ID{byte(r.Intn(3))}}
				switch r.Intn(12) {
				case 0:
					v.round = odd[r.Intn(len(odd))]
				case 1:
					v.who = r.Intn(10) - 1
				case 2:
					v.kind = r.Intn(5) - 1
				case 3:
					v.id = count.Nil()
				}
				if e, want := c.Put(v.round, v.kind, v.who, v.id), p.put(v); e != want {
					t.Fatalf("Put(%d, %d, %d): %v, want %v", v.round, v.kind, v.who, e, want)
				}
				same(t, "drawn votes", c, p)
			}
		}
	}
}

func TestAllArguments(t *testing.T) { // P1
	for voters := range faults {
		c, p := fresh(t, voters)
		puts(t, c, p, cast{0, 0, 0, api.ID{1}}, api.OK)
		for _, n := range odd {
			for _, m := range odd {
				if c.Get(n, m, 0) != (api.ID{}) || c.Get(0, n, m) != (api.ID{}) || c.Get(n, 0, m) != (api.ID{}) || c.Get(0, 0, n) != (api.ID{}) {
					t.Errorf("Get of %d and %d", n, m)
				}
				if c.For(n, m, api.ID{1}) != 0 || c.All(n, m) != 0 || c.All(0, m) != 0 || c.All(n, 0) != 0 {
					t.Errorf("For or All of %d and %d", n, m)
				}
				if id, found := c.Sure(n, m); found || id != (api.ID{}) {
					t.Errorf("Sure of %d and %d", n, m)
				}
			}
		}
		same(t, "behind all", c, p)
	}
}

func TestCountsAreApart(t *testing.T) { // P2
	one, p := fresh(t, 4)
	two, q := fresh(t, 4)
	for who := range 3 {
		puts(t, one, p, cast{1, 0, who, api.ID{1}}, api.OK)
		puts(t, two, q, cast{1, 0, who, api.ID{2}}, api.OK)
	}
	same(t, "one", one, p)
	same(t, "two", two, q)
}
