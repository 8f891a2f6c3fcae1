package timer_test

import (
	"math"
	"math/rand"
	"slices"
	"testing"

	"scrivener/timer"
)

// mark is a timer: its round and its step.
type mark struct {
	round, step int
}

// tick: what is over at a tick.
func tick(t *timer.Timer) []mark {
	var list []mark
	for round, step := range t.Tick() {
		list = append(list, mark{round, step})
	}
	return list
}

// ticks: what is over at each of so many ticks.
func ticks(t *timer.Timer, count int) [][]mark {
	var all [][]mark
	for range count {
		all = append(all, tick(t))
	}
	return all
}

// state: does a timer tell how many run, and how often the clock went on?
func state(t *testing.T, what string, x *timer.Timer, count, now int) {
	t.Helper()
	if x.Len() != count || x.Now() != now {
		t.Errorf("%s: Len %d, Now %d, want %d, %d", what, x.Len(), x.Now(), count, now)
	}
}

// over: is just this over at the next tick?
func over(t *testing.T, what string, x *timer.Timer, want ...mark) {
	t.Helper()
	if got := tick(x); !slices.Equal(got, want) {
		t.Errorf("%s: %v, want %v", what, got, want)
	}
}

// odd is rounds and steps that are none.
var odd = []int{math.MinInt, -1, 12, 4711, math.MaxInt}

func TestLimits(t *testing.T) {
	if timer.Base != 3 || timer.More != 2 || timer.Most != 40 {
		t.Error("the limits")
	}
}

func TestDelay(t *testing.T) { // P15.1
	for round, want := range map[int]int{
		math.MinInt: 3, -1000: 3, -2: 3, -1: 3, 0: 3, 1: 5, 2: 7, 3: 9, 11: 25, 12: 27,
		999: 2001, 1000: 2003, 1001: 2003, 1002: 2003, math.MaxInt: 2003, math.MaxInt/2 + 1: 2003,
	} {
		if got := timer.Delay(round); got != want {
			t.Errorf("Delay(%d): %d, want %d", round, got, want)
		}
	}
}

func TestTheZeroTimer(t *testing.T) { // Types
	var x timer.Timer
	state(t, "the zero Timer", &x, 0, 0)
	over(t, "the zero Timer", &x)
	state(t, "a tick", &x, 0, 1)
	x.Clear()
	state(t, "Clear", &x, 0, 1)
}

func TestOverBehindItsDelay(t *testing.T) { // P15.3, and the example
	for _, ahead := range []int{0, 1, 7} {
		for _, round := range append([]int{0, 1, 2, 11, 999, 1000}, odd...) {
			var x timer.Timer
			ticks(&x, ahead)
			if !x.Set(round, 2) {
				t.Errorf("Set(%d, 2)", round)
			}
			state(t, "Set", &x, 1, ahead)
			for n := 1; n < timer.Delay(round); n++ {
				if got := tick(&x); len(got) > 0 || x.Len() != 1 {
					t.Fatalf("the timer of the round %d at tick %d: %v", round, n, got)
				}
			}
			over(t, "its last tick", &x, mark{round, 2})
			state(t, "over", &x, 0, ahead+timer.Delay(round))
			over(t, "one tick more", &x)
		}
	}
}

func TestStepsAreTold(t *testing.T) { // P15.2, P15.3: whatever they are
	var x timer.Timer
	var want []mark
	for _, round := range []int{0, -1, math.MinInt} { // all of one delay
		for _, step := range append([]int{0, 1, 2, 3}, odd...) {
			x.Set(round, step)
			want = append(want, mark{round, step})
		}
	}
	ticks(&x, 2)
	over(t, "steps", &x, want...)
}

func TestTheOrderIsThatOfSet(t *testing.T) { // P15.3: not that of rounds, nor that in which they began to be due
	var x timer.Timer
	x.Set(2, 5) // over at 7
	tick(&x)
	tick(&x)
	x.Set(1, 9) // at 7
	tick(&x)
	x.Set(3, 1) // at 12
	x.Set(0, 7) // at 6
	tick(&x)
	x.Set(0, 8) // at 7
	x.Set(0, 2) // at 7
	over(t, "the fifth tick", &x)
	over(t, "the sixth tick", &x, mark{0, 7})
	over(t, "the seventh tick", &x, mark{2, 5}, mark{1, 9}, mark{0, 8}, mark{0, 2})
	state(t, "the seventh tick", &x, 1, 7)
	if got := ticks(&x, 5); len(got[4]) != 1 || got[4][0] != (mark{3, 1}) {
		t.Errorf("the last one: %v", got)
	}
}

func TestOneSetTwiceRunsTwice(t *testing.T) { // P15.2
	var x timer.Timer
	x.Set(0, 1)
	tick(&x)
	x.Set(0, 1)
	x.Set(0, 1)
	state(t, "set thrice", &x, 3, 1)
	over(t, "the second tick", &x)
	over(t, "the third tick", &x, mark{0, 1})
	over(t, "the fourth tick", &x, mark{0, 1}, mark{0, 1})
	state(t, "all over", &x, 0, 4)
}

func TestMost(t *testing.T) { // P15.2: 40 run, and no more; those that are over or cleared don't
	var x timer.Timer
	var want []mark
	for n := range 40 {
		if !x.Set(n/20, n) {
			t.Errorf("the timer %d", n)
		}
		want = append(want, mark{n / 20, n})
	}
	for _, round := range append([]int{0, 1}, odd...) {
		if x.Set(round, 1) {
			t.Errorf("Set(%d, 1): a 41st timer", round)
		}
	}
	state(t, "40 timers", &x, 40, 0)
	ticks(&x, 2)
	over(t, "the first half", &x, want[:20]...)
	state(t, "the first half", &x, 20, 3)
	for n := range 20 {
		if !x.Set(0, n) {
			t.Errorf("a timer behind the first half: %d", n)
		}
	}
	if x.Set(0, 1) {
		t.Error("one too many behind the first half")
	}
	tick(&x)
	over(t, "the second half", &x, want[20:]...)
	state(t, "the second half", &x, 20, 5)
	x.Clear()
	for n := range 40 {
		if !x.Set(5, n) {
			t.Errorf("a timer behind Clear: %d", n)
		}
	}
	if x.Set(0, 1) {
		t.Error("one too many behind Clear")
	}
}

func TestClear(t *testing.T) { // P15.2: timers alone, not the clock
	var x timer.Timer
	x.Set(0, 1)
	x.Set(1, 2)
	tick(&x)
	x.Clear()
	state(t, "Clear", &x, 0, 1)
	for n, got := range ticks(&x, 8) {
		if len(got) > 0 {
			t.Errorf("the tick %d behind Clear: %v", n, got)
		}
	}
	x.Set(0, 3)
	over(t, "a tick", &x)
	over(t, "a tick", &x)
	over(t, "a timer behind Clear", &x, mark{0, 3})
	state(t, "a timer behind Clear", &x, 0, 12)
}

func TestTickIsAtOnce(t *testing.T) { // P15.3: also if nobody goes through what it answers, or goes through it late, twice, or not to its end
	var x timer.Timer
	for step := range 3 {
		x.Set(0, step)
	}
	x.Tick()
	x.Tick()
	state(t, "two ticks", &x, 3, 2)
	first := x.Tick()
	state(t, "the third", &x, 0, 3)
	x.Set(0, 7)
	x.Tick()
	x.Clear()
	x.Set(0, 8)
	for range 2 {
		var got []mark
		for round, step := range first {
			got = append(got, mark{round, step})
		}
		if !slices.Equal(got, []mark{{0, 0}, {0, 1}, {0, 2}}) {
			t.Errorf("what was over at the third tick: %v", got)
		}
	}
	for _, step := range first {
		if step == 1 {
			break
		}
	}
	state(t, "left", &x, 1, 4)
	over(t, "others that were over", &x)
}

func TestTimersAreApart(t *testing.T) { // rule 4, rule 5
	var x, y timer.Timer
	x.Set(0, 1)
	x.Set(1, 2)
	x.Set(0, 3)
	state(t, "another Timer", &y, 0, 0)
	z := x
	y.Set(0, 9)
	ticks(&x, 2)
	over(t, "the third tick", &x, mark{0, 1}, mark{0, 3})
	x.Clear()
	x.Set(2, 4)
	state(t, "a copy", &z, 3, 0)
	ticks(&z, 2)
	over(t, "a copy", &z, mark{0, 1}, mark{0, 3})
	state(t, "another Timer", &y, 1, 0)
}

// plain is timers as plain as may be: how many ticks each runs still.
type plain struct {
	now  int
	list []mark
	left []int
}

func (p *plain) set(round, step int) bool {
	if len(p.list) >= 40 {
		return false
	}
	p.list = append(p.list, mark{round, step})
	p.left = append(p.left, 3+2*min(max(round, 0), 1000))
	return true
}

func (p *plain) tick() []mark {
	p.now++
	var gone, list []mark
	var left []int
	for i, m := range p.list {
		if p.left[i] == 1 {
			gone = append(gone, m)
			continue
		}
		list, left = append(list, m), append(left, p.left[i]-1)
	}
	p.list, p.left = list, left
	return gone
}

func TestDrawnCalls(t *testing.T) { // P15.2, P15.3
	for seed := range int64(200) {
		draw := rand.New(rand.NewSource(seed))
		var x timer.Timer
		var p plain
		far := 1 + draw.Intn(40)
		for range 400 {
			switch n := draw.Intn(100); {
			case n == 0:
				x.Clear()
				p.list, p.left = nil, nil
			case n < 60:
				round, step := draw.Intn(far)-1, draw.Intn(4)
				if got, want := x.Set(round, step), p.set(round, step); got != want {
					t.Fatalf("seed %d: Set(%d, %d): %v", seed, round, step, got)
				}
			default:
				if got, want := tick(&x), p.tick(); !slices.Equal(got, want) {
					t.Fatalf("seed %d: Tick: %v, want %v", seed, got, want)
				}
			}
			if x.Len() != len(p.list) || x.Now() != p.now {
				t.Fatalf("seed %d: Len %d, Now %d, want %d, %d", seed, x.Len(), x.Now(), len(p.list), p.now)
			}
		}
	}
}
