package audit_test

import (
	"bytes"
	"math"
	"math/rand"
	"slices"
	"testing"

	"scrivener/api"
	"scrivener/audit"
	"scrivener/book"
)

func TestPartsOfTwo(t *testing.T) { // P22.1, and the example
	for _, c := range []struct {
		what     string
		one, two [][]byte
		at       int // below 0: they don't part
	}{
		{"the example", texts("x", "y"), texts("x", "z"), 1},
		{"the first ones", texts("x", "y"), texts("y", "y"), 0},
		{"of unlike lengths", texts("x", "y", "z"), texts("x", "z"), 1},
		{"of unlike lengths, the other way", texts("x", "z"), texts("x", "y", "z"), 1},
		{"the first of several", texts("a", "b", "c", "d"), texts("a", "x", "c", "y"), 1},
		{"the last", texts("a", "b", "c"), texts("a", "b", "d"), 2},
		{"one text begins with the other", texts("a", "bc"), texts("a", "b"), 1},
		{"a text and no bytes", texts("a", ""), texts("a", "b"), 1},
		{"joined they are the same", texts("ab", "c"), texts("a", "bc"), 0},
		{"in another order", texts("a", "b"), texts("b", "a"), 0},
		{"one twice", texts("a", "a", "b"), texts("a", "b", "b"), 1},
		{"the same", texts("a", "b"), texts("a", "b"), -1},
		{"one begins with the other", texts("a", "b", "c"), texts("a", "b"), -1},
		{"the other begins with one", texts("a"), texts("a", "b"), -1},
		{"one is empty", nil, texts("a"), -1},
		{"the other is empty", texts("a"), [][]byte{}, -1},
		{"both are empty", nil, [][]byte{}, -1},
		{"no bytes in two ways", [][]byte{nil, []byte("a")}, [][]byte{{}, []byte("a")}, -1},
		{"no bytes in two ways, and then they part", [][]byte{nil, []byte("a")}, [][]byte{{}, []byte("b")}, 1},
	} {
		var want []audit.Part
		if c.at >= 0 {
			want = []audit.Part{{One: 0, Two: 1, At: c.at}}
		}
		if got := slices.Collect(audit.Parts(c.one, c.two)); !slices.Equal(got, want) {
			t.Errorf("%s: %v, want %v", c.what, got, want)
		}
	}
}

func TestPartsOfSeveral(t *testing.T) { // P22.1: by the first one's number and then the second's
	a, b, c, d := texts("x", "y"), texts("x", "z"), texts("x"), texts("w", "y")
	got := slices.Collect(audit.Parts(a, b, c, d, b, nil, a))
	want := []audit.Part{
		{One: 0, Two: 1, At: 1}, {One: 0, Two: 3, At: 0}, {One: 0, Two: 4, At: 1},
		{One: 1, Two: 3, At: 0}, {One: 1, Two: 6, At: 1},
		{One: 2, Two: 3, At: 0},
		{One: 3, Two: 4, At: 0}, {One: 3, Two: 6, At: 0},
		{One: 4, Two: 6, At: 1},
	}
	if !slices.Equal(got, want) {
		t.Errorf("%v, want %v", got, want)
	}
}

func TestPartsOfFew(t *testing.T) { // P22.1: there is no pair
	for _, lists := range [][][][]byte{nil, {}, {nil}, {texts("a", "b")}} {
		for p := range audit.Parts(lists...) {
			t.Errorf("of %d lists: %v", len(lists), p)
		}
	}
}

// drawn: a list of some texts, of few unlike ones.
func drawn(r *rand.Rand, most int) [][]byte {
	var list [][]byte
	for range r.Intn(most + 1) {
		list = append(list, bytes.Repeat([]byte{byte(r.Intn(2))}, r.Intn(2)))
	}
	return list
}

func TestPartsDrawn(t *testing.T) { // P22.1
	r := rand.New(rand.NewSource(221))
	for range 3000 {
		var lists [][][]byte
		for range r.Intn(7) {
			lists = append(lists, drawn(r, 6))
		}
		if got, want := slices.Collect(audit.Parts(lists...)), plainParts(lists...); !slices.Equal(got, want) {
			t.Fatalf("Parts(%v): %v, want %v", lists, got, want)
		}
	}
}

func TestALoopOverPartsIsLeft(t *testing.T) { // rule 6: at any item; gone through once more, it begins anew
	lists := [][][]byte{texts("a"), texts("b"), texts("b", "c"), texts("c"), texts("a", "d")}
	want := plainParts(lists...)
	parts := audit.Parts(lists...)
	for count := 1; count <= len(want); count++ {
		var got []audit.Part
		for p := range parts {
			got = append(got, p)
			if len(got) == count {
				break
			}
		}
		if !slices.Equal(got, want[:count]) {
			t.Errorf("left at the %dth: %v, want %v", count, got, want[:count])
		}
	}
}

func TestTheFirstPartOfManyLists(t *testing.T) { // rule 6: a loop that is left doesn't look at all the pairs ahead
	lists := make([][][]byte, 100000)
	for i := range lists {
		lists[i] = [][]byte{{byte(i), byte(i >> 8), byte(i >> 16)}}
	}
	for p := range audit.Parts(lists...) {
		if p != (audit.Part{One: 0, Two: 1}) {
			t.Errorf("the first one: %v", p)
		}
		break
	}
}

func TestPartsKeepsNothing(t *testing.T) { // rule 4
	lists := [][][]byte{roomy(texts("a", "b")), roomy(texts("a", "c")), roomy(texts("a"))}
	was := [][][]byte{deep(lists[0]), deep(lists[1]), deep(lists[2])}
	want := plainParts(lists...)
	parts := audit.Parts(lists...)
	if got := slices.Collect(parts); !slices.Equal(got, want) {
		t.Errorf("%v, want %v", got, want)
	}
	for i, list := range lists {
		if !slices.EqualFunc(deep(list), was[i], bytes.Equal) {
			t.Errorf("the list %d was changed", i)
		}
	}
	for range parts {
		for i := range lists {
			spoil(lists[i])
		}
		lists[0], lists[1] = lists[2], nil
	}
	if got := slices.Collect(parts); !slices.Equal(got, want) {
		t.Errorf("of lists that are others now: %v, want %v", got, want)
	}
}

func TestTwice(t *testing.T) { // P22.2
	x, y, z := entry(t, 1, 1, "x"), entry(t, 1, 2, ""), entry(t, 1, 1, "z")
	u, v := entry(t, 2, 1, "x"), entry(t, 0, 1<<40, "")
	none := []byte("none")
	long := written(t, api.Msg{Kind: 1, Who: 1, Num: 1, Data: make([]byte, 257)})
	batch := written(t, api.Msg{Kind: 2, Who: 1, Num: 1})
	for _, c := range []struct {
		what     string
		list     [][]byte
		one, two int // the same: there is none
	}{
		{"no list", nil, 0, 0},
		{"an empty one", [][]byte{}, 0, 0},
		{"one", [][]byte{x}, 0, 0},
		{"others", [][]byte{x, y, u, v}, 0, 0},
		{"the same bytes", [][]byte{x, x}, 0, 1},
		{"other bytes", [][]byte{x, z}, 0, 1},
		{"behind others", [][]byte{y, x, u, z}, 1, 3},
		{"three times", [][]byte{y, x, z, x}, 1, 2},
		{"two of them, the second one's end is first", [][]byte{x, y, y, x}, 1, 2},
		{"two of them, in turns", [][]byte{x, y, x, y}, 0, 2},
		{"the greatest number", [][]byte{v, u, v}, 0, 2},
		{"none twice", [][]byte{none, none, nil, nil, {}, {}, x}, 0, 0},
		{"none twice, and then one", [][]byte{none, x, none, nil, z}, 1, 4},
		{"too long a one", [][]byte{long, long, x}, 0, 0},
		{"too long a one ahead", [][]byte{long, x, z}, 1, 2},
		{"another kind", [][]byte{batch, x, batch}, 0, 0},
		{"another kind within", [][]byte{x, batch, long, x}, 0, 3},
	} {
		want, there := audit.Part{}, c.one != c.two
		if there {
			want = audit.Part{One: c.one, Two: c.two}
		}
		if got, ok := audit.Twice(c.list); got != want || ok != there {
			t.Errorf("%s: %v, %v; want %v, %v", c.what, got, ok, want, there)
		}
	}
}

func TestTwiceDrawn(t *testing.T) { // P22.2
	r := rand.New(rand.NewSource(222))
	for range 3000 {
		var list [][]byte
		for range r.Intn(8) {
			b := entry(t, r.Intn(3), 1+r.Intn(4), string(make([]byte, r.Intn(2))))
			if r.Intn(5) == 0 {
				b = b[:r.Intn(len(b))]
			}
			list = append(list, b)
		}
		got, ok := audit.Twice(list)
		if want, there := plainTwice(list); got != want || ok != there {
			t.Fatalf("Twice(%v): %v, %v; want %v, %v", list, got, ok, want, there)
		}
	}
}

func TestFalse(t *testing.T) { // P22.3
	list := texts("a", "", "c", "a", "no entry")
	one := api.ID{1}
	right, empty := rootOf(list), rootOf(nil)
	for _, c := range []struct {
		what string
		head book.Head
		want bool
	}{
		{"all", book.Head{Height: 1, Size: 5, Root: right}, false},
		{"none", book.Head{Root: empty}, false},
		{"none, at a height", book.Head{Height: 3, Root: empty}, false},
		{"another root", book.Head{Size: 5, Root: one}, true},
		{"no root", book.Head{Size: 5}, true},
		{"of none another root", book.Head{Root: right}, true},
		{"of none no root", book.Head{}, true},
		{"another's root", book.Head{Size: 4, Root: right}, true},
		{"the root of no entries", book.Head{Size: 1, Root: empty}, true},
		{"one too many", book.Head{Size: 6, Root: right}, true},
		{"one too many, and no root", book.Head{Size: 6}, true},
		{"one below", book.Head{Size: -1, Root: empty}, true},
		{"one below, and no root", book.Head{Size: -1}, true},
	} {
		for _, height := range append([]int{c.head.Height, 0, 1, 9}, far...) {
			c.head.Height = height
			if got := slices.Collect(audit.False(list, c.head)); (len(got) == 1) != c.want || c.want && got[0] != 0 {
				t.Errorf("%s, of the Height %d: %v", c.what, height, got)
			}
		}
	}
	for _, size := range far {
		for _, root := range []api.ID{{}, right, empty} {
			if got := slices.Collect(audit.False(list, book.Head{Size: size, Root: root})); !slices.Equal(got, []int{0}) {
				t.Errorf("of the Size %d: %v", size, got)
			}
		}
	}
}

func TestFalseOfEachSize(t *testing.T) { // P22.3: the first Size of them, and by their numbers
	for count := range 40 {
		var list [][]byte
		for i := range count {
			list = append(list, entry(t, i%16, i+1, "text"))
		}
		var heads []book.Head
		var want []int
		for size := count; size >= 0; size-- { // the sizes fall, so that no order of theirs is that of their numbers
			wrong := headOf(list, size)
			wrong.Root[size%32] ^= 1
			want = append(want, len(heads)+1)
			heads = append(heads, headOf(list, size), wrong, headOf(list, size))
		}
		if got := slices.Collect(audit.False(list, heads...)); !slices.Equal(got, want) {
			t.Errorf("of %d entries: %v, want %v", count, got, want)
		}
	}
}

func TestFalseOfNothing(t *testing.T) { // P22.3
	for _, list := range [][][]byte{nil, {}, texts("a")} {
		for i := range audit.False(list) {
			t.Errorf("of no heads: %d", i)
		}
		heads := []book.Head{{Size: len(list), Root: rootOf(list)}, {Size: len(list) + 1, Root: rootOf(list)}, {Size: 0, Root: rootOf(nil)}}
		if got := slices.Collect(audit.False(list, heads...)); !slices.Equal(got, []int{1}) {
			t.Errorf("of %d entries: %v", len(list), got)
		}
	}
}

func TestFalseDrawn(t *testing.T) { // P22.3
	r := rand.New(rand.NewSource(223))
	for range 500 {
		list := drawn(r, 9)
		var heads []book.Head
		for range r.Intn(9) {
			h := headOf(list, r.Intn(len(list)+1))
			switch r.Intn(4) {
			case 0:
				h.Size += r.Intn(5) - 2
			case 1:
				h.Root[r.Intn(32)]++
			case 2:
				h.Height = r.Int()
			}
			heads = append(heads, h)
		}
		if got, want := slices.Collect(audit.False(list, heads...)), plainFalse(list, heads...); !slices.Equal(got, want) {
			t.Fatalf("False(%v, %v): %v, want %v", list, heads, got, want)
		}
	}
}

func TestTheHeadsOfABook(t *testing.T) { // P22.3: no head of a book is false of its list
	b := book.New()
	var list [][]byte
	var heads []book.Head
	for height := range 9 {
		batch, _ := book.Join(entry(t, height, 1, "text"), entry(t, 1, height+1, ""), entry(t, 2, 1, ""))
		b.Apply(batch)
		h, _ := b.Head(height + 1)
		heads = append(heads, h)
	}
	for i := range b.Size() {
		one, _ := b.At(i)
		list = append(list, one)
	}
	for i := range audit.False(list, heads...) {
		t.Errorf("the head %d", i)
	}
	if p, ok := audit.Twice(list); ok {
		t.Errorf("twice: %v", p)
	}
}

func TestALoopOverFalseIsLeft(t *testing.T) { // rules 4 and 6
	list := roomy(texts("a", "b", "c"))
	heads := append(make([]book.Head, 0, 9), headOf(list, 3), book.Head{Size: 1}, headOf(list, 1), book.Head{Size: 4}, book.Head{}, headOf(list, 0))
	was, ahead := deep(list), slices.Clone(heads[:cap(heads)])
	want := []int{1, 3, 4}
	found := audit.False(list, heads...)
	if !slices.EqualFunc(deep(list), was, bytes.Equal) || !slices.Equal(heads[:cap(heads)], ahead) {
		t.Error("what was handed in was changed")
	}
	for count := 1; count <= len(want); count++ {
		var got []int
		for i := range found {
			got = append(got, i)
			spoil(list)
			clear(heads[:cap(heads)])
			if len(got) == count {
				break
			}
		}
		if !slices.Equal(got, want[:count]) {
			t.Errorf("left at the %dth: %v, want %v", count, got, want[:count])
		}
	}
}

func TestFalseOfManyHeads(t *testing.T) { // P22.3, P1: of a long list, and in time
	list := make([][]byte, 3000)
	for i := range list {
		list[i] = []byte{byte(i), byte(i >> 8)}
	}
	heads := make([]book.Head, 3000)
	for i := range heads {
		heads[i] = book.Head{Size: 3000 - i}
	}
	heads[2999].Root = rootOf(list[:1])
	heads[0].Root = rootOf(list)
	var got []int
	for i := range audit.False(list, heads...) {
		got = append(got, i)
	}
	if len(got) != 2998 || got[0] != 1 || got[2997] != 2998 {
		t.Errorf("%d of them", len(got))
	}
}

func TestLongest(t *testing.T) { // P22.4
	a, b, c, d := texts("a"), texts("b", "c"), texts("d", "e"), texts("f", "g", "h")
	wide := texts("a text that is longer than all the others")
	empty := make([][]byte, 0, 2)
	for _, c := range []struct {
		what  string
		lists [][][]byte
		want  int
	}{
		{"one", [][][]byte{a}, 0},
		{"the first", [][][]byte{d, b, a}, 0},
		{"the last", [][][]byte{a, b, d}, 2},
		{"within", [][][]byte{a, d, b}, 1},
		{"the first of two", [][][]byte{a, b, c, a}, 1},
		{"the first of two, the other way", [][][]byte{c, a, b}, 0},
		{"how long the texts are doesn't count", [][][]byte{wide, b}, 1},
		{"and not among as long ones", [][][]byte{a, wide}, 0},
		{"none and one", [][][]byte{nil, empty, a}, 2},
		{"empty ones", [][][]byte{empty, nil}, 0},
	} {
		got, want := audit.Longest(c.lists...), c.lists[c.want]
		if len(got) != len(want) || cap(got) != cap(want) {
			t.Errorf("%s: %q", c.what, got)
			continue
		}
		for i := range got { // the bytes are those that were handed in
			if &got[i][0] != &want[i][0] {
				t.Errorf("%s: %q, want %q", c.what, got, want)
			}
		}
	}
	for _, lists := range [][][][]byte{nil, {}, {nil}, {nil, nil}} {
		if got := audit.Longest(lists...); len(got) != 0 {
			t.Errorf("of %d: %q", len(lists), got)
		}
	}
}

func TestForeign(t *testing.T) { // P22.4
	for _, c := range []struct {
		what         string
		list, handed [][]byte
		at           int // below 0: there is none
	}{
		{"none", texts("a", "b"), texts("b", "a", "c"), -1},
		{"twice, handed in once", texts("a", "a"), texts("a"), -1},
		{"the first", texts("x", "a"), texts("a"), 0},
		{"the last", texts("a", "b", "x"), texts("a", "b"), 2},
		{"the first of two", texts("a", "x", "y"), texts("b", "a"), 1},
		{"of nothing", nil, texts("a"), -1},
		{"of nothing, and nothing was handed in", nil, nil, -1},
		{"nothing was handed in", texts("a"), nil, 0},
		{"one that begins with it", texts("a"), texts("ab"), 0},
		{"one with which it begins", texts("ab"), texts("a", "b"), 0},
		{"no bytes", texts("a", ""), texts("a"), 1},
		{"no bytes in two ways", [][]byte{nil, {}}, [][]byte{{}}, -1},
		{"no bytes in two ways, the other way", [][]byte{{}, nil}, [][]byte{nil}, -1},
		{"bytes that are no text", [][]byte{{255}, {254, 0}}, [][]byte{{254, 0}, {0xEF, 0xBF, 0xBD}}, 0},
	} {
		want, there := max(c.at, 0), c.at >= 0
		if got, ok := audit.Foreign(c.list, c.handed); got != want || ok != there {
			t.Errorf("%s: %d, %v; want %d, %v", c.what, got, ok, want, there)
		}
	}
}

func TestForeignDrawn(t *testing.T) { // P22.4
	r := rand.New(rand.NewSource(224))
	for range 3000 {
		list, handed := drawn(r, 5), drawn(r, 5)
		got, ok := audit.Foreign(list, handed)
		if want, there := plainForeign(list, handed); got != want || ok != there {
			t.Fatalf("Foreign(%v, %v): %d, %v; want %d, %v", list, handed, got, ok, want, there)
		}
	}
}

func TestNothingIsChanged(t *testing.T) { // rule 4: what is handed in stays as it was, its spare room too
	list := roomy([][]byte{entry(t, 1, 1, "x"), []byte("none"), entry(t, 1, 1, "y")})
	other := roomy(texts("a", "b"))
	was, before := deep(list), deep(other)
	audit.Twice(list)
	audit.Foreign(list, other)
	audit.Foreign(other, list)
	audit.Longest(list, other)
	if !slices.EqualFunc(deep(list), was, bytes.Equal) || !slices.EqualFunc(deep(other), before, bytes.Equal) {
		t.Error("a list was changed")
	}
}

func TestOddHeads(t *testing.T) { // P1: of any numbers
	for _, list := range [][][]byte{nil, texts("a", "b")} {
		var heads []book.Head
		for _, size := range append([]int{math.MinInt + 1, math.MaxInt - 1, 3, 1 << 40}, far...) {
			for _, height := range far {
				heads = append(heads, book.Head{Height: height, Size: size})
			}
		}
		if got := slices.Collect(audit.False(list, heads...)); len(got) != len(heads) {
			t.Errorf("%d of %d", len(got), len(heads))
		}
	}
}
