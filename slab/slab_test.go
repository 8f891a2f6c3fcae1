package slab_test

import (
	"bytes"
	"math"
	"slices"
	"testing"

	"scrivener/api"
	"scrivener/slab"
)

// made: a slab with bytes of which the first are sure.
func made(t *testing.T, room int, sure, unsure string) *slab.Slab {
	t.Helper()
	s, e := slab.New(room)
	if e != api.OK || s.Append([]byte(sure)) != api.OK || s.Sync() != api.OK || s.Append([]byte(unsure)) != api.OK {
		t.Fatalf("a slab of %d with %q and %q: %v", room, sure, unsure, e)
	}
	return s
}

// holds: are these bytes there, so many of them sure?
func holds(t *testing.T, s *slab.Slab, want string, wantSure int) {
	t.Helper()
	if n, sure := s.Size(); string(s.Bytes()) != want || n != len(want) || sure != wantSure {
		t.Errorf("%q, of %d bytes %d sure; want %q, %d sure", s.Bytes(), n, sure, want, wantSure)
	}
}

// answers: is an error the one that is wanted?
func answers(t *testing.T, what string, e, want api.Errno) {
	t.Helper()
	if e != want {
		t.Errorf("%s: %v, not %v", what, e, want)
	}
}

func TestLimit(t *testing.T) { // P9.1
	if slab.MaxRoom != 4194304 {
		t.Error(slab.MaxRoom)
	}
}

func TestNew(t *testing.T) { // P9.1
	for _, room := range []int{0, 1, 5, slab.MaxRoom - 1, slab.MaxRoom} {
		s, e := slab.New(room)
		if e != api.OK || s == nil {
			t.Fatalf("New(%d): %v", room, e)
		}
		holds(t, s, "", 0)
	}
	for _, room := range []int{-1, -slab.MaxRoom, slab.MaxRoom + 1, math.MinInt, math.MaxInt} {
		if s, e := slab.New(room); e != api.ErrRange || s != nil {
			t.Errorf("New(%d): %v", room, e)
		}
	}
}

func TestExample(t *testing.T) { // P9.2, P9.3
	s := made(t, 10, "ab", "cd")
	s.Crash(1)
	holds(t, s, "abc", 3)
}

func TestAppend(t *testing.T) { // P9.2
	s := made(t, 5, "", "")
	answers(t, "of two", s.Append([]byte("ab")), api.OK)
	holds(t, s, "ab", 0)
	answers(t, "of none", s.Append(nil), api.OK)
	holds(t, s, "ab", 0)
	answers(t, "of one too many", s.Append([]byte("cdef")), api.ErrFull)
	holds(t, s, "ab", 0)
	answers(t, "of as many as there is room", s.Append([]byte("cde")), api.OK)
	holds(t, s, "abcde", 0)
	answers(t, "without room", s.Append([]byte("f")), api.ErrFull)
	answers(t, "of none, without room", s.Append([]byte{}), api.OK)
	holds(t, s, "abcde", 0)
}

func TestAppendBehindWhatIsSure(t *testing.T) { // P9.2
	s := made(t, 8, "ab", "cd")
	holds(t, s, "abcd", 2)
	answers(t, "of one too many", s.Append([]byte("efghi")), api.ErrFull)
	answers(t, "of all that fits", s.Append([]byte("efgh")), api.OK)
	holds(t, s, "abcdefgh", 2)
}

func TestRoom(t *testing.T) { // P9.1, P9.2
	none := made(t, 0, "", "")
	answers(t, "where there is no room", none.Append([]byte("a")), api.ErrFull)
	answers(t, "of none, where there is no room", none.Append(nil), api.OK)
	holds(t, none, "", 0)

	most := made(t, slab.MaxRoom, "", "")
	all := bytes.Repeat([]byte{7}, slab.MaxRoom)
	answers(t, "of too many", most.Append(append(all, 7)), api.ErrFull)
	answers(t, "of all", most.Append(all), api.OK)
	answers(t, "of one more", most.Append([]byte{7}), api.ErrFull)
	if n, sure := most.Size(); n != slab.MaxRoom || sure != 0 || !bytes.Equal(most.Bytes(), all) {
		t.Errorf("%d bytes, %d sure", n, sure)
	}
}

func TestRoomComesBack(t *testing.T) { // P9.2, P9.3: what is gone makes room
	s := made(t, 4, "ab", "cd")
	answers(t, "Cut", s.Cut(1), api.OK)
	answers(t, "of too many", s.Append([]byte("wxyz")), api.ErrFull)
	answers(t, "of three", s.Append([]byte("xyz")), api.OK)
	holds(t, s, "axyz", 1)
	s.Crash(0)
	holds(t, s, "a", 1)
	answers(t, "of three, after a Crash", s.Append([]byte("uvw")), api.OK)
	holds(t, s, "auvw", 1)
}

func TestSync(t *testing.T) { // P9.2
	s := made(t, 9, "ab", "cd")
	answers(t, "Sync", s.Sync(), api.OK)
	holds(t, s, "abcd", 4)
	answers(t, "Sync of what is sure", s.Sync(), api.OK)
	holds(t, s, "abcd", 4)
	answers(t, "Append", s.Append([]byte("e")), api.OK)
	holds(t, s, "abcde", 4)
	s.Crash(0)
	holds(t, s, "abcd", 4)
}

func TestCut(t *testing.T) { // P9.2
	for at := range 6 {
		s := made(t, 9, "abc", "de")
		answers(t, "Cut", s.Cut(at), api.OK)
		holds(t, s, "abcde"[:at], min(at, 3))
	}
	for _, at := range []int{-1, 6, 9, math.MinInt, math.MaxInt} {
		s := made(t, 9, "abc", "de")
		answers(t, "Cut outside", s.Cut(at), api.ErrRange)
		holds(t, s, "abcde", 3)
	}
	empty := made(t, 9, "", "")
	answers(t, "Cut of nothing", empty.Cut(0), api.OK)
	answers(t, "Cut behind nothing", empty.Cut(1), api.ErrRange)
	holds(t, empty, "", 0)
}

func TestWhatIsCutOffStaysGone(t *testing.T) { // P9.2, P9.3: also if it was sure
	s := made(t, 9, "abcd", "ef")
	answers(t, "Cut", s.Cut(2), api.OK)
	s.Crash(9)
	holds(t, s, "ab", 2)

	s = made(t, 9, "abcd", "ef")
	answers(t, "Cut", s.Cut(2), api.OK)
	answers(t, "Append", s.Append([]byte("xy")), api.OK)
	s.Crash(0) // where sure bytes were, others are that aren't
	holds(t, s, "ab", 2)
}

func TestSpoil(t *testing.T) { // P9.1
	for at := range 5 {
		s := made(t, 9, "abc", "de")
		answers(t, "Spoil", s.Spoil(at, 'x'), api.OK)
		want := []byte("abcde")
		want[at] = 'x'
		holds(t, s, string(want), 3)
		s.Crash(0)
		holds(t, s, string(want[:3]), 3)
	}
	for _, at := range []int{-1, 5, 6, 9, math.MinInt, math.MaxInt} {
		s := made(t, 9, "abc", "de")
		answers(t, "Spoil where no byte is", s.Spoil(at, 'x'), api.ErrRange)
		holds(t, s, "abcde", 3)
	}
	answers(t, "Spoil of nothing", made(t, 9, "", "").Spoil(0, 'x'), api.ErrRange)
	gone := made(t, 9, "abc", "")
	answers(t, "Cut", gone.Cut(1), api.OK)
	answers(t, "Spoil of what is gone", gone.Spoil(1, 'x'), api.ErrRange)
}

func TestSpoilNeedsNoPower(t *testing.T) { // P9.1, P9.2: three calls alone are steps
	s := made(t, 9, "ab", "c")
	s.Break(0)
	answers(t, "Spoil", s.Spoil(1, 'x'), api.OK)
	answers(t, "Spoil", s.Spoil(3, 'x'), api.ErrRange)
	holds(t, s, "axc", 2)
	s.Break(1)
	answers(t, "Spoil", s.Spoil(0, 'y'), api.OK)
	holds(t, s, "yxc", 2)
	answers(t, "Sync", s.Sync(), api.OK)
	answers(t, "Sync", s.Sync(), api.ErrDown)
}

func TestWithoutPower(t *testing.T) { // P9.2, P9.3
	s := made(t, 6, "ab", "cd")
	s.Break(0)
	for range 3 { // a refused step gives no power, and takes none
		answers(t, "Append", s.Append([]byte("e")), api.ErrDown)
		answers(t, "Append of none", s.Append(nil), api.ErrDown)
		answers(t, "Sync", s.Sync(), api.ErrDown)
		for at := range 5 {
			answers(t, "Cut", s.Cut(at), api.ErrDown)
		}
		answers(t, "Append of too many", s.Append([]byte("efg")), api.ErrFull)
		answers(t, "Cut outside", s.Cut(-1), api.ErrRange)
		answers(t, "Cut outside", s.Cut(5), api.ErrRange)
		holds(t, s, "abcd", 2)
	}
}

func TestEachOfThreeIsAStep(t *testing.T) { // P9.2, P9.3
	calls := map[string]func(*slab.Slab) api.Errno{
		"Append":               func(s *slab.Slab) api.Errno { return s.Append([]byte("x")) },
		"Append of none":       func(s *slab.Slab) api.Errno { return s.Append(nil) },
		"Sync":                 func(s *slab.Slab) api.Errno { return s.Sync() },
		"Cut":                  func(s *slab.Slab) api.Errno { return s.Cut(1) },
		"Cut of no byte":       func(s *slab.Slab) api.Errno { n, _ := s.Size(); return s.Cut(n) },
		"Sync of what is sure": func(s *slab.Slab) api.Errno { return s.Sync() },
	}
	for name, call := range calls {
		for steps := range 5 {
			s := made(t, 20, "ab", "cd")
			s.Break(steps)
			for step := range 7 {
				want := api.OK
				if step >= steps {
					want = api.ErrDown
				}
				answers(t, name, call(s), want)
			}
		}
	}
}

func TestRefusedCallsAreNoSteps(t *testing.T) { // P9.2
	s := made(t, 5, "ab", "cd")
	s.Break(1)
	for range 3 {
		answers(t, "Append of too many", s.Append([]byte("ef")), api.ErrFull)
		answers(t, "Cut outside", s.Cut(5), api.ErrRange)
		answers(t, "Cut outside", s.Cut(-1), api.ErrRange)
		s.Bytes()
		s.Size()
	}
	answers(t, "Append", s.Append([]byte("e")), api.OK)
	answers(t, "Append without power", s.Append(nil), api.ErrDown)
	holds(t, s, "abcde", 2)
}

func TestBreakAnew(t *testing.T) { // P9.3: the last one holds
	s := made(t, 9, "ab", "cd")
	s.Break(5)
	s.Break(0)
	answers(t, "Sync", s.Sync(), api.ErrDown)
	s.Break(1)
	answers(t, "Sync", s.Sync(), api.OK)
	answers(t, "Sync", s.Sync(), api.ErrDown)
	for _, steps := range []int{-1, -2, math.MinInt} {
		s.Break(0)
		s.Break(steps)
		for range 50 {
			answers(t, "Sync", s.Sync(), api.OK)
		}
	}
	s.Break(math.MaxInt)
	for range 50 {
		answers(t, "Sync", s.Sync(), api.OK)
	}
}

func TestBreakChangesNoByte(t *testing.T) { // P9.3
	s := made(t, 9, "ab", "cd")
	for _, steps := range []int{0, 1, -1, 9} {
		s.Break(steps)
		holds(t, s, "abcd", 2)
	}
}

func TestCrash(t *testing.T) { // P9.3
	for _, c := range []struct {
		keep int
		want string
	}{
		{math.MinInt, "ab"}, {-1, "ab"}, {0, "ab"}, {1, "abc"}, {2, "abcd"}, {3, "abcde"}, {4, "abcde"}, {100, "abcde"}, {math.MaxInt, "abcde"},
	} {
		s := made(t, 9, "ab", "cde")
		s.Crash(c.keep)
		holds(t, s, c.want, len(c.want))
		s.Crash(0) // what is there is sure
		holds(t, s, c.want, len(c.want))
	}
	s := made(t, 9, "abc", "")
	s.Crash(2)
	holds(t, s, "abc", 3)
	empty := made(t, 9, "", "")
	empty.Crash(2)
	holds(t, empty, "", 0)
}

func TestCrashBringsPower(t *testing.T) { // P9.3
	for _, steps := range []int{0, 1, 2, -1} {
		s := made(t, 90, "ab", "cd")
		s.Break(steps)
		s.Crash(2)
		for range 50 {
			answers(t, "Append", s.Append([]byte("x")), api.OK)
			answers(t, "Sync", s.Sync(), api.OK)
		}
		holds(t, s, "abcd"+string(bytes.Repeat([]byte("x"), 50)), 54)
	}
}

func TestNothingIsShared(t *testing.T) { // P2
	b := append(make([]byte, 0, 10), "abc"...)
	s := made(t, 20, "", "")
	answers(t, "Append", s.Append(b), api.OK)
	clear(b[:cap(b)])
	holds(t, s, "abc", 0)

	one, two := s.Bytes(), s.Bytes()
	clear(one[:cap(one)])
	_ = append(one, "zzzz"...)
	if string(two) != "abc" {
		t.Error("two answers share")
	}
	holds(t, s, "abc", 0)
	answers(t, "Append", s.Append([]byte("def")), api.OK)
	answers(t, "Spoil", s.Spoil(0, 'x'), api.OK)
	if string(two) != "abc" || len(one) != 3 || one[0] != 0 {
		t.Error("an answer changes with the slab")
	}
	holds(t, s, "xbcdef", 0)
}

func TestWhatIsHandedInStays(t *testing.T) { // P2: with its spare room
	whole := []byte("abcdef")
	s := made(t, 20, "", "")
	answers(t, "Append", s.Append(whole[:2]), api.OK)
	answers(t, "Append", s.Append(whole[:3:4]), api.OK)
	answers(t, "Spoil", s.Spoil(0, 'x'), api.OK)
	answers(t, "Cut", s.Cut(1), api.OK)
	answers(t, "Append", s.Append([]byte("123456")), api.OK)
	if string(whole) != "abcdef" {
		t.Errorf("%q", whole)
	}
}

func TestSlabsAreApart(t *testing.T) { // P2
	one, two := made(t, 9, "ab", "c"), made(t, 9, "ab", "c")
	one.Break(0)
	answers(t, "Spoil", one.Spoil(0, 'x'), api.OK)
	answers(t, "Append", two.Append([]byte("d")), api.OK)
	holds(t, one, "xbc", 2)
	holds(t, two, "abcd", 2)
}

// plain is a slab as the promises tell of it: each byte with whether it is sure.
type plain struct {
	room   int
	bytes  []byte
	sure   []bool
	steps  int
	forAll bool
}

func (p *plain) step(e api.Errno, do func()) api.Errno {
	if e != api.OK {
		return e
	}
	if !p.forAll && p.steps == 0 {
		return api.ErrDown
	}
	p.steps--
	do()
	return api.OK
}

func (p *plain) append(b []byte) api.Errno {
	e := api.OK
	if len(p.bytes)+len(b) > p.room {
		e = api.ErrFull
	}
	return p.step(e, func() {
		for _, x := range b {
			p.bytes, p.sure = append(p.bytes, x), append(p.sure, false)
		}
	})
}

func (p *plain) sync() api.Errno {
	return p.step(api.OK, func() {
		for i := range p.sure {
			p.sure[i] = true
		}
	})
}

func (p *plain) cut(at int) api.Errno {
	e := api.OK
	if at < 0 || at > len(p.bytes) {
		e = api.ErrRange
	}
	return p.step(e, func() { p.bytes, p.sure = p.bytes[:at], p.sure[:at] })
}

func (p *plain) crash(keep int) {
	var there []byte
	for i, x := range p.bytes {
		if !p.sure[i] {
			if keep <= 0 {
				continue
			}
			keep--
		}
		there = append(there, x)
	}
	p.bytes, p.sure = there, slices.Repeat([]bool{true}, len(there))
	p.forAll = true
}

func (p *plain) count() int {
	n := 0
	for _, sure := range p.sure {
		if sure {
			n++
		}
	}
	return n
}

func TestManyCallsOneAfterAnother(t *testing.T) { // P9.1, P9.2, P9.3
	x := uint32(9)
	draw := func(n int) int {
		x = x*1664525 + 1013904223
		return int(x>>16) % n
	}
	for range 300 {
		room := draw(30)
		s := made(t, room, "", "")
		p := &plain{room: room, forAll: true}
		for range 60 {
			n := draw(35) - 3
			switch draw(10) {
			case 0, 1, 2:
				b := bytes.Repeat([]byte{byte(n)}, draw(8))
				answers(t, "Append", s.Append(b), p.append(b))
			case 3, 4:
				answers(t, "Sync", s.Sync(), p.sync())
			case 5:
				answers(t, "Cut", s.Cut(n), p.cut(n))
			case 6:
				steps := draw(9) - 2
				s.Break(steps)
				p.steps, p.forAll = steps, steps < 0
			case 7:
				keep := draw(9) - 2
				s.Crash(keep)
				p.crash(keep)
			default:
				want := api.ErrRange
				if n >= 0 && n < len(p.bytes) {
					p.bytes[n], want = 'x', api.OK
				}
				answers(t, "Spoil", s.Spoil(n, 'x'), want)
			}
			holds(t, s, string(p.bytes), p.count())
		}
	}
}
