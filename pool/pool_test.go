package pool_test

import (
	"bytes"
	"math"
	"math/rand"
	"slices"
	"testing"

	"scrivener/api"
	"scrivener/book"
	"scrivener/pool"
)

// item is an entry that waits.
type item struct {
	who, num int
	bytes    []byte
}

// entry: the bytes of an entry, as an item.
func entry(t *testing.T, who, num int, text string) item {
	t.Helper()
	b, e := book.Entry(who, num, []byte(text))
	if e != api.OK {
		t.Fatalf("Entry(%d, %d): %v", who, num, e)
	}
	return item{who, num, b}
}

// plain is a pool as plain as may be.
type plain []item

// put: the rules of Put of an entry, one by one.
func (p *plain) put(x item) api.Errno {
	each := 0
	for _, w := range *p {
		if w.who == x.who && w.num == x.num {
			return api.ErrTwice
		}
		if w.who == x.who {
			each++
		}
	}
	if each == 3 {
		return api.ErrQuota
	}
	if len(*p) == 24 {
		return api.ErrFull
	}
	*p = append(*p, x)
	return api.OK
}

// done: those of these names don't wait any more.
func (p *plain) done(names map[[2]int]bool) int {
	var left plain
	for _, w := range *p {
		if !names[[2]int{w.who, w.num}] {
			left = append(left, w)
		}
	}
	count := len(*p) - len(left)
	*p = left
	return count
}

// first: the first so many.
func (p plain) first(most int) [][]byte {
	var list [][]byte
	for i := 0; i < most && i < len(p); i++ {
		list = append(list, p[i].bytes)
	}
	return list
}

// same: is a pool as the plain one?
func same(t *testing.T, what string, p *pool.Pool, want plain) {
	t.Helper()
	if p.Len() != len(want) {
		t.Fatalf("%s: %d wait, want %d", what, p.Len(), len(want))
	}
	for _, most := range []int{math.MinInt, -1, 0, 1, 2, 7, 8, 9, 23, 24, 25, math.MaxInt} {
		if got := slices.Collect(p.First(most)); !slices.EqualFunc(got, want.first(most), bytes.Equal) {
			t.Errorf("%s: First(%d): %d", what, most, len(got))
		}
	}
	batch, e := book.Join(want.first(8)...)
	if e != api.OK || !bytes.Equal(p.Batch(), batch) {
		t.Errorf("%s: Batch", what)
	}
}

// puts: does Put answer as the plain one, and leave as much?
func puts(t *testing.T, what string, p *pool.Pool, q *plain, x item, want api.Errno) {
	t.Helper()
	if e := p.Put(x.bytes); e != want || q.put(x) != want {
		t.Errorf("%s: Put of %d, %d: %v, want %v", what, x.who, x.num, e, want)
	}
	same(t, what, p, *q)
}

// booked: a book that has entries.
func booked(t *testing.T, list ...item) *book.Book {
	t.Helper()
	b := book.New()
	for _, x := range list {
		batch, e := book.Join(x.bytes)
		if e != api.OK || b.Apply(batch) != 1 {
			t.Fatalf("Apply of %d, %d: %v", x.who, x.num, e)
		}
	}
	return b
}

func TestLimits(t *testing.T) { // P12.1
	if pool.MaxEach != 3 || pool.MaxAll != 24 {
		t.Error("the limits")
	}
}

func TestNewIsEmpty(t *testing.T) { // P12.1, P12.3
	p := pool.New()
	same(t, "a new one", p, nil)
	if b := p.Batch(); !bytes.Equal(b, []byte{2}) {
		t.Errorf("Batch of none: %v", b)
	}
}

func TestTwice(t *testing.T) { // P12.1, and the chapter's example
	p, q := pool.New(), &plain{}
	puts(t, "one", p, q, entry(t, 3, 7, "text"), api.OK)
	puts(t, "once more", p, q, entry(t, 3, 7, "text"), api.ErrTwice)
	puts(t, "of another text", p, q, entry(t, 3, 7, "other"), api.ErrTwice)
	puts(t, "of another client", p, q, entry(t, 7, 7, "text"), api.OK)
	puts(t, "of another number", p, q, entry(t, 3, 3, "text"), api.OK)
	puts(t, "the other way round", p, q, entry(t, 7, 3, "text"), api.OK)
}

func TestQuota(t *testing.T) { // P12.1: ErrTwice, ErrQuota, ErrFull, in this order
	p, q := pool.New(), &plain{}
	for who := range 16 {
		for n := 1; n <= 3 && len(*q) < 22; n++ {
			puts(t, "with room", p, q, entry(t, who, n*100, "x"), api.OK)
		}
		if len(*q) < 22 {
			puts(t, "a fourth one", p, q, entry(t, who, 400, "x"), api.ErrQuota)
			puts(t, "one that waits, of three", p, q, entry(t, who, 300, "x"), api.ErrTwice)
		}
	}
	puts(t, "the 23rd", p, q, entry(t, 15, 1, ""), api.OK)
	puts(t, "the 24th", p, q, entry(t, 15, 2, ""), api.OK)
	puts(t, "the 25th", p, q, entry(t, 15, 3, ""), api.ErrFull)
	puts(t, "the 25th, of another one", p, q, entry(t, 14, 1, ""), api.ErrFull)
	puts(t, "a fourth one, of a full pool", p, q, entry(t, 0, 1, ""), api.ErrQuota)
	puts(t, "one that waits, of a full pool", p, q, entry(t, 15, 2, ""), api.ErrTwice)
	puts(t, "one that waits, of three, of a full pool", p, q, entry(t, 0, 100, "y"), api.ErrTwice)
	if e := p.Put([]byte("no entry")); e == api.OK || e == api.ErrFull {
		t.Errorf("Put of no entry into a full pool: %v", e)
	}
}

func TestPutRefusesWhatIsNoEntry(t *testing.T) { // P12.1: Check's errors, ahead of all others
	p, q := pool.New(), &plain{}
	for n := range 3 {
		puts(t, "with room", p, q, entry(t, 1, n+1, "x"), api.OK)
	}
	long := slices.Concat([]byte{1, 1, 0, 0, 1, 1, 5, 0, 0, 1, 1, 7, 0, 1, 1}, make([]byte, 257))
	for _, x := range []struct {
		bytes []byte
		want  api.Errno
	}{
		{nil, api.ErrShort},
		{[]byte{0}, api.ErrTag},
		{[]byte{1}, api.ErrForm},
		{[]byte{2}, api.ErrForm},
		{[]byte{1, 1, 0, 0, 1, 1, 5, 0, 0}, api.ErrShort},
		{[]byte{1, 1, 0, 0, 1, 16, 5, 0, 0, 1, 1}, api.ErrForm},
		{[]byte{1, 1, 0, 0, 1, 1, 3, 0, 0, 1, 1, 5, 0, 0, 1, 1}, api.ErrForm},
		{append(entry(t, 1, 1, "x").bytes, 0), api.ErrTag},
		{long, api.ErrLong},
	} {
		if _, e := book.Check(x.bytes); e != x.want {
			t.Errorf("Check of %v: %v, want %v", x.bytes, e, x.want)
		}
		if e := p.Put(x.bytes); e != x.want {
			t.Errorf("Put of %v: %v, want %v", x.bytes, e, x.want)
		}
		same(t, "behind a refused Put", p, *q)
	}
}

func TestDone(t *testing.T) { // P12.2
	p, q := pool.New(), &plain{}
	for n := range 9 {
		puts(t, "Put", p, q, entry(t, n/3, n%3+1, "x"), api.OK)
	}
	if n := p.Done(book.New()); n != 0 {
		t.Errorf("Done of an empty book: %d", n)
	}
	same(t, "Done of an empty book", p, *q)
	b := booked(t, entry(t, 2, 3, "x"), entry(t, 0, 1, "another text"), entry(t, 1, 2, "x"), entry(t, 1, 4, "x"), entry(t, 9, 1, "x"))
	names := map[[2]int]bool{{2, 3}: true, {0, 1}: true, {1, 2}: true}
	for _, want := range []int{3, 0} {
		if n := p.Done(b); n != want || q.done(names) != want {
			t.Errorf("Done: %d, want %d", n, want)
		}
		same(t, "Done", p, *q)
	}
	if b.Size() != 5 || b.Height() != 5 {
		t.Error("Done changes the book")
	}
	puts(t, "there is room again", p, q, entry(t, 1, 5, "x"), api.OK)
	puts(t, "but for one", p, q, entry(t, 1, 6, "x"), api.ErrQuota)
	puts(t, "what is done waits once more", p, q, entry(t, 0, 1, "x"), api.OK)
}

func TestDoneOfAll(t *testing.T) { // P12.2
	p, q := pool.New(), &plain{}
	var list []item
	for n := range 24 {
		x := entry(t, n/3, n+1, "x")
		puts(t, "Put", p, q, x, api.OK)
		list = append(list, x)
	}
	b := booked(t, list...)
	if n := p.Done(b); n != 24 {
		t.Errorf("Done: %d", n)
	}
	same(t, "Done of all", p, nil)
	*q = nil
	for _, x := range list {
		puts(t, "Put behind Done", p, q, x, api.OK)
	}
	puts(t, "one too many", p, q, entry(t, 15, 1, ""), api.ErrFull)
}

func TestDrawnCalls(t *testing.T) { // P12.1 to P12.3
	r := rand.New(rand.NewSource(12))
	for range 40 {
		p, q := pool.New(), &plain{}
		for range 200 {
			if r.Intn(30) > 0 {
				x := entry(t, r.Intn(16), 1+r.Intn(6), string(make([]byte, r.Intn(20))))
				if e, want := p.Put(x.bytes), q.put(x); e != want {
					t.Fatalf("Put of %d, %d: %v, want %v", x.who, x.num, e, want)
				}
			} else {
				b, names := book.New(), map[[2]int]bool{}
				for range r.Intn(60) {
					x := entry(t, r.Intn(16), 1+r.Intn(6), "")
					batch, _ := book.Join(x.bytes)
					b.Apply(batch)
					names[[2]int{x.who, x.num}] = true
				}
				if n, want := p.Done(b), q.done(names); n != want {
					t.Fatalf("Done: %d, want %d", n, want)
				}
			}
			same(t, "drawn calls", p, *q)
		}
	}
}

func TestFirstIsLeftAndGoneThroughAnew(t *testing.T) { // P12.3
	p, q := pool.New(), &plain{}
	for n := range 10 {
		puts(t, "Put", p, q, entry(t, n, 1, "x"), api.OK)
	}
	all := p.First(9)
	for stop := range 9 {
		seen := 0
		for b := range all {
			if !bytes.Equal(b, (*q)[seen].bytes) {
				t.Errorf("the entry %d: %v", seen, b)
			}
			clear(b[:cap(b)]) // what is answered is new memory: the next loop doesn't see it
			seen++
			if seen == stop+1 {
				break
			}
		}
		if seen != stop+1 {
			t.Errorf("left at %d: %d seen", stop, seen)
		}
	}
	same(t, "behind the loops", p, *q)
}

func TestFirstIsWhatWaitsWhenTheLoopBegins(t *testing.T) { // rule 6
	p, q := pool.New(), &plain{}
	all := p.First(2)
	for n := range 3 {
		x := entry(t, n, 1, "x")
		puts(t, "Put", p, q, x, api.OK)
		if got := slices.Collect(all); !slices.EqualFunc(got, q.first(2), bytes.Equal) {
			t.Errorf("behind %d: %d", n+1, len(got))
		}
	}
	p.Done(booked(t, (*q)[0], (*q)[1]))
	if got := slices.Collect(all); len(got) != 1 || !bytes.Equal(got[0], (*q)[2].bytes) {
		t.Errorf("behind Done: %d", len(got))
	}
}

func TestWhatIsPutStays(t *testing.T) { // P2: neither changed nor kept, with its spare room
	p, q := pool.New(), &plain{}
	x := entry(t, 1, 2, "text")
	room := slices.Concat(x.bytes, []byte("spare"))
	was := slices.Clone(room)
	if e := p.Put(room[:len(x.bytes)]); e != api.OK || q.put(x) != api.OK || !bytes.Equal(room, was) {
		t.Errorf("Put: %v", e)
	}
	clear(room)
	same(t, "behind a change of what was put", p, *q)
}

func TestWhatIsAnsweredIsNew(t *testing.T) { // P2: it shares memory with nothing
	p, q := pool.New(), &plain{}
	for n := range 3 {
		puts(t, "Put", p, q, entry(t, n, 1, "x"), api.OK)
	}
	for _, b := range slices.Collect(p.First(3)) {
		clear(b[:cap(b)])
	}
	same(t, "behind a change of First", p, *q)
	b := p.Batch()
	clear(b[:cap(b)])
	same(t, "behind a change of Batch", p, *q)
}

func TestPoolsAreApart(t *testing.T) { // P2
	one, two := pool.New(), pool.New()
	p, q := &plain{}, &plain{}
	for n := range 6 {
		puts(t, "one", one, p, entry(t, n, 1, "x"), api.OK)
		puts(t, "two", two, q, entry(t, n, 1, "y"), api.OK)
	}
	b := booked(t, entry(t, 3, 1, ""))
	if one.Done(b) != 1 || p.done(map[[2]int]bool{{3, 1}: true}) != 1 {
		t.Error("Done")
	}
	same(t, "one", one, *p)
	same(t, "two", two, *q)
}
