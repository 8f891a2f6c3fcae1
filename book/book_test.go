package book_test

import (
	"bytes"
	"crypto/sha256"
	"math"
	"math/rand"
	"slices"
	"testing"

	"scrivener/api"
	"scrivener/book"
)

// rootOf: the root of entries, written out.
func rootOf(entries [][]byte) api.ID {
	if len(entries) == 0 {
		return sha256.Sum256(nil)
	}
	if len(entries) == 1 {
		return leafOf(entries[0])
	}
	k := 1
	for 2*k < len(entries) {
		k *= 2
	}
	left, right := rootOf(entries[:k]), rootOf(entries[k:])
	return sha256.Sum256(slices.Concat([]byte{1}, left[:], right[:]))
}

func leafOf(entry []byte) api.ID {
	return sha256.Sum256(append([]byte{0}, entry...))
}

// item is an entry of a plain book.
type item struct {
	who, num int
	bytes    []byte
}

// plain is a book as plain as may be.
type plain struct {
	items []item
	heads []book.Head
}

// apply: a batch of these is agreed upon; of what is no entry the who is -1.
func (p *plain) apply(batch []item) int {
	count := 0
	for _, x := range batch {
		if _, there := p.find(x.who, x.num); x.who >= 0 && !there && len(p.items) < 1000 {
			p.items = append(p.items, x)
			count++
		}
	}
	p.heads = append(p.heads, book.Head{Height: len(p.heads) + 1, Size: len(p.items), Root: rootOf(p.entries())})
	return count
}

func (p *plain) entries() [][]byte {
	var list [][]byte
	for _, x := range p.items {
		list = append(list, x.bytes)
	}
	return list
}

func (p *plain) find(who, num int) (int, bool) {
	for i, x := range p.items {
		if x.who == who && x.num == num {
			return i, true
		}
	}
	return 0, false
}

func (p *plain) since(at int) (book.Head, api.Errno) {
	for _, h := range p.heads {
		if at >= 0 && h.Size > at {
			return h, api.OK
		}
	}
	return book.Head{}, api.ErrMissing
}

// batch: the bytes of a batch of items.
func batch(items ...item) []byte {
	var list [][]byte
	for _, x := range items {
		list = append(list, x.bytes)
	}
	return batchOf(list...)
}

// entry: an item that is an entry.
func entry(who, num int, text string) item {
	return item{who, num, entryOf(who, num, []byte(text))}
}

// same: is a book as the plain one?
func same(t *testing.T, b *book.Book, p *plain) {
	t.Helper()
	if b.Size() != len(p.items) || b.Height() != len(p.heads) {
		t.Fatalf("%d entries, the height %d; want %d, %d", b.Size(), b.Height(), len(p.items), len(p.heads))
	}
	for i, x := range p.items {
		if got, e := b.At(i); e != api.OK || !bytes.Equal(got, x.bytes) {
			t.Errorf("At(%d): %v, %v", i, got, e)
		}
		if at, e := b.Find(x.who, x.num); e != api.OK || at != i {
			t.Errorf("Find(%d, %d): %d, %v", x.who, x.num, at, e)
		}
	}
	for i, h := range p.heads {
		if got, e := b.Head(i + 1); e != api.OK || got != h {
			t.Errorf("Head(%d): %v, %v; want %v", i+1, got, e, h)
		}
	}
	for at := -2; at <= len(p.items)+1; at++ {
		h, e := b.Since(at)
		if want, f := p.since(at); h != want || e != f {
			t.Errorf("Since(%d): %v, %v; want %v, %v", at, h, e, want, f)
		}
	}
	missing(t, b)
}

// missing: is what a book can't have missing?
func missing(t *testing.T, b *book.Book) {
	t.Helper()
	for _, i := range append(far, b.Size(), b.Size()+1) {
		if got, e := b.At(i); e != api.ErrMissing || got != nil {
			t.Errorf("At(%d): %v", i, e)
		}
	}
	for _, i := range append(far, 0, b.Height()+1, b.Height()+2) {
		if h, e := b.Head(i); e != api.ErrMissing || h != (book.Head{}) {
			t.Errorf("Head(%d): %v", i, e)
		}
	}
	for _, i := range append(far, b.Size(), b.Size()+1) {
		if h, e := b.Since(i); e != api.ErrMissing || h != (book.Head{}) {
			t.Errorf("Since(%d): %v", i, e)
		}
	}
	for _, i := range append(far, b.Size()+1, b.Size()+2) {
		if ids, e := b.Leaves(i); e != api.ErrRange || ids != nil {
			t.Errorf("Leaves(%d): %v", i, e)
		}
	}
	for _, n := range append(far, 16) {
		if at, e := b.Find(n, 1); e != api.ErrMissing || at != 0 {
			t.Errorf("Find(%d, 1): %d, %v", n, at, e)
		}
	}
	for _, n := range append(far, 0) {
		if at, e := b.Find(1, n); e != api.ErrMissing || at != 0 {
			t.Errorf("Find(1, %d): %d, %v", n, at, e)
		}
	}
}

// leaves: are the leaves of each so many those of a plain book?
func leaves(t *testing.T, b *book.Book, p *plain) {
	t.Helper()
	var want []api.ID
	for size := 0; size <= len(p.items); size++ {
		if got, e := b.Leaves(size); e != api.OK || !slices.Equal(got, want) {
			t.Errorf("Leaves(%d): %v", size, e)
		}
		if size < len(p.items) {
			want = append(want, leafOf(p.items[size].bytes))
		}
	}
}

func TestNewIsEmpty(t *testing.T) { // P11.3, P11.4
	b := book.New()
	same(t, b, &plain{})
	leaves(t, b, &plain{})
}

func TestOneEntryTwice(t *testing.T) { // the chapter's example
	b, p := book.New(), &plain{}
	x := entry(3, 7, "text")
	twice := []item{x, x}
	if n := b.Apply(batch(twice...)); n != 1 || p.apply(twice) != 1 {
		t.Errorf("Apply: %d", n)
	}
	same(t, b, p)
	if n := b.Apply(batch(twice...)); n != 0 || p.apply(twice) != 0 {
		t.Errorf("Apply once more: %d", n)
	}
	same(t, b, p)
	if b.Size() != 1 || b.Height() != 2 {
		t.Errorf("%d entries, the height %d", b.Size(), b.Height())
	}
}

func TestWhatIsThereIsNotPutAnew(t *testing.T) { // P11.3: Who and Num count, not the text
	b, p := book.New(), &plain{}
	for _, list := range [][]item{
		{entry(1, 2, "a"), entry(2, 1, "b"), entry(1, 2, "c")},
		{entry(2, 1, "d"), entry(1, 1, "e"), entry(2, 2, "f"), entry(0, 1, ""), entry(0, 258, "")},
		{entry(1, 258, ""), entry(15, 1<<40, "g"), entry(15, 1, "h"), entry(0, 1, "i")},
	} {
		if n, want := b.Apply(batch(list...)), p.apply(list); n != want {
			t.Errorf("Apply: %d, want %d", n, want)
		}
		same(t, b, p)
	}
	leaves(t, b, p)
}

func TestWhatIsNoEntryIsLeftOut(t *testing.T) { // P11.3, P11.1
	good := api.Msg{Kind: 1, Who: 1, Num: 1}
	wrong := []func(*api.Msg){
		func(m *api.Msg) { m.Who = 16 },
		func(m *api.Msg) { m.Num = 0 },
		func(m *api.Msg) { m.Round = 1 },
		func(m *api.Msg) { m.Data = some(257) },
		func(m *api.Msg) { m.Kind = 2 },
	}
	for i, spoil := range wrong {
		m := good
		spoil(&m)
		list := []item{{-1, 0, nil}, {-1, 0, written(t, m)}, entry(1, 1, "x"), {-1, 0, []byte("no entry")}, entry(1, 2, "")}
		b, p := book.New(), &plain{}
		if n, want := b.Apply(batch(list...)), p.apply(list); n != want || n != 2 {
			t.Errorf("Apply with the wrong one %d: %d", i, n)
		}
		same(t, b, p)
	}
}

func TestApplyOfNoBatch(t *testing.T) { // P11.3: nothing is put, a head is added
	nine := written(t, api.Msg{Kind: 2, List: slices.Repeat([][]byte{entryOf(1, 1, nil)}, 9)})
	b, p := book.New(), &plain{}
	for range 2 {
		for _, x := range [][]byte{nil, {2}, []byte("no batch"), nine, entryOf(1, 1, nil), batchOf(entryOf(1, 1, nil))[:10], {0}} {
			if n := b.Apply(x); n != 0 {
				t.Errorf("Apply of %v: %d", x, n)
			}
			p.apply(nil)
			same(t, b, p)
		}
		list := []item{entry(2, b.Height(), "")}
		if b.Apply(batch(list...)) != 1 || p.apply(list) != 1 {
			t.Error("Apply of one behind them")
		}
		same(t, b, p)
	}
	leaves(t, b, p)
}

func TestOtherFieldsOfABatchDontCount(t *testing.T) { // P11.2, P11.3
	b, p := book.New(), &plain{}
	list := []item{entry(4, 4, "four"), entry(5, 5, "five")}
	m := api.Msg{Kind: 2, Who: 1, Height: 2, Data: some(9), List: [][]byte{list[0].bytes, list[1].bytes}}
	if b.Apply(written(t, m)) != p.apply(list) {
		t.Error("Apply of a batch with other fields")
	}
	same(t, b, p)
}

func TestDrawnBatches(t *testing.T) { // P11.3, P11.4
	r := rand.New(rand.NewSource(11))
	for round := range 30 {
		b, p := book.New(), &plain{}
		for range 40 {
			var list []item
			for range r.Intn(9) {
				x := entry(r.Intn(16), 1+r.Intn(10+round*20), string(some(r.Intn(40))))
				if r.Intn(8) == 0 {
					x = item{-1, 0, x.bytes[:r.Intn(5)]}
				}
				list = append(list, x)
			}
			if n, want := b.Apply(batch(list...)), p.apply(list); n != want {
				t.Fatalf("Apply: %d, want %d", n, want)
			}
		}
		same(t, b, p)
		leaves(t, b, p)
	}
}

func TestAFullBook(t *testing.T) { // P11.3: MaxEntries
	for _, first := range []int{8, 3, 1} { // so that the last batch is whole, or cut within
		b, p := book.New(), &plain{}
		for num := 1; len(p.items) < 1000; {
			var list []item
			for count := range 8 {
				if num == 1 && count == first {
					break
				}
				list = append(list, entry((num+count)%16, num+count, "x"))
			}
			num += len(list)
			if n, want := b.Apply(batch(list...)), p.apply(list); n != want {
				t.Fatalf("Apply: %d, want %d", n, want)
			}
		}
		list := []item{p.items[0], entry(1, 1<<40, "one too many"), entry(2, 1<<40, "")}
		for range 3 {
			if n := b.Apply(batch(list...)); n != 0 || p.apply(list) != 0 {
				t.Errorf("Apply to a full book: %d", n)
			}
		}
		if b.Size() != 1000 {
			t.Errorf("%d entries", b.Size())
		}
		same(t, b, p)
	}
}

func TestSinceOfManyHeads(t *testing.T) { // P11.4: the first of those with one Size
	b, p := book.New(), &plain{}
	for i, count := range []int{0, 0, 2, 0, 0, 0, 1, 3, 0, 0, 8, 0} {
		var list []item
		for n := range count {
			list = append(list, entry(n, i+1, ""))
		}
		b.Apply(batch(list...))
		p.apply(list)
		same(t, b, p)
	}
	for at, want := range map[int]int{0: 3, 1: 3, 2: 7, 3: 8, 5: 8, 6: 11, 13: 11} {
		if h, e := b.Since(at); e != api.OK || h.Height != want {
			t.Errorf("Since(%d): %v, %v", at, h, e)
		}
	}
	if h, e := b.Since(math.MaxInt); e != api.ErrMissing || h != (book.Head{}) {
		t.Errorf("Since the greatest number: %v", e)
	}
}

func TestWhatIsAppliedStays(t *testing.T) { // P2: neither changed nor kept, with its spare room
	b, p := book.New(), &plain{}
	list := []item{entry(1, 1, "one"), entry(2, 1, "two")}
	bytesOf := batch(list...)
	room := append(slices.Clone(bytesOf), some(99)...)
	was := slices.Clone(room)
	b.Apply(room[:len(bytesOf)])
	p.apply(list)
	if !bytes.Equal(room, was) {
		t.Error("Apply changes the batch")
	}
	clear(room)
	same(t, b, p)
	leaves(t, b, p)
}

func TestWhatIsAnsweredIsNew(t *testing.T) { // P2: it shares memory with nothing
	b, p := book.New(), &plain{}
	list := []item{entry(1, 1, "one"), entry(2, 1, "two"), entry(3, 1, "three")}
	b.Apply(batch(list...))
	p.apply(list)
	for i := range list {
		one, _ := b.At(i)
		two, _ := b.At(i)
		clear(one[:cap(one)])
		if !bytes.Equal(two, list[i].bytes) {
			t.Error("two answers of At share memory")
		}
	}
	for size := range 4 {
		one, _ := b.Leaves(size)
		two, _ := b.Leaves(size)
		was := slices.Clone(two)
		clear(one[:cap(one)])
		if !slices.Equal(two, was) {
			t.Error("two answers of Leaves share memory")
		}
	}
	same(t, b, p)
	leaves(t, b, p)
	more := []item{entry(4, 1, "four")}
	b.Apply(batch(more...))
	p.apply(more)
	same(t, b, p)
}

func TestBooksAreApart(t *testing.T) { // P2
	one, two := book.New(), book.New()
	p, q := &plain{}, &plain{}
	for i := range 20 {
		list := []item{entry(i%16, i+1, "one")}
		if i%3 == 0 {
			list = []item{entry(i%16, i+1, "two"), entry(i%16, i+2, "")}
			two.Apply(batch(list...))
			q.apply(list)
			continue
		}
		one.Apply(batch(list...))
		p.apply(list)
	}
	same(t, one, p)
	same(t, two, q)
	leaves(t, one, p)
	leaves(t, two, q)
}
