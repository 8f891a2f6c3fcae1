package bundle_test

import (
	"bytes"
	"math"
	"math/rand"
	"slices"
	"testing"

	"scrivener/api"
	"scrivener/book"
	"scrivener/bundle"
	"scrivener/head"
	"scrivener/keys"
)

func TestNew(t *testing.T) { // P18.1
	for signers := range 30 {
		list := make([]api.ID, signers)
		for i := range list {
			list[i] = api.ID{byte(i)}
		}
		b, e := bundle.New(list...)
		if signers == 1 || signers == 4 || signers == 7 {
			if e != api.OK || b == nil {
				t.Fatalf("New of %d: %v", signers, e)
			}
			same(t, "a new one", b, &plain{publics: list})
		} else if e != api.ErrRange || b != nil {
			t.Errorf("New of %d: %v", signers, e)
		}
	}
}

func TestOneAlone(t *testing.T) { // the chapter's example
	b, p := fresh(t, 1)
	adds(t, "one alone", b, p, 0, by(0, at(5, 1)).Msg(), api.OK)
	if h, ok := b.Accepted(5); !ok || h != at(5, 1) {
		t.Errorf("Accepted: %v, %v", h, ok)
	}
	if h, ok := b.Best(); !ok || h != at(5, 1) {
		t.Errorf("Best: %v, %v", h, ok)
	}
}

func TestEnoughOfThem(t *testing.T) { // P18.2
	for signers, enough := range need {
		for height := 1; height <= 8; height++ {
			b, p := fresh(t, signers)
			for i := range signers {
				who := (height + i) % signers
				adds(t, "one more", b, p, who, by(who, at(height, 0)).Msg(), api.OK)
				if h, ok := b.Accepted(height); ok != (i+1 >= enough) || ok && h != at(height, 0) {
					t.Errorf("%d of %d: Accepted: %v, %v", i+1, signers, h, ok)
				}
				if h, ok := b.Best(); ok != (i+1 >= enough) || ok && h != at(height, 0) {
					t.Errorf("%d of %d: Best: %v, %v", i+1, signers, h, ok)
				}
			}
		}
	}
}

func TestHeadsThatAreUnlike(t *testing.T) { // P18.2: one that differs in its size, or its root alone, counts for itself
	for _, c := range []struct {
		which []int // of each signer, which head
		want  int   // which one is accepted; below 0: none
	}{
		{[]int{0, 0, 1, 1}, -1},
		{[]int{0, 1, 0, 2}, -1},
		{[]int{0, 2, 2, 0}, -1},
		{[]int{0, 1, 2, 3}, -1},
		{[]int{0, 1, 0, 0}, 0},
		{[]int{2, 0, 0, 0}, 0},
		{[]int{1, 1, 1, 3}, 1},
		{[]int{0, 0, 0, 0, 1, 1, 1}, -1},
		{[]int{0, 2, 0, 2, 0, 2, 0}, -1},
		{[]int{0, 1, 2, 3, 0, 0, 0}, -1},
		{[]int{0, 1, 2, 0, 0, 0, 0}, 0},
		{[]int{1, 1, 3, 3, 3, 3, 3}, 3},
	} {
		b, p := fresh(t, len(c.which))
		for who, which := range c.which {
			adds(t, "one more", b, p, who, by(who, at(4, which)).Msg(), api.OK)
		}
		h, ok := b.Accepted(4)
		if ok != (c.want >= 0) || ok && h != at(4, c.want) {
			t.Errorf("of %v: Accepted: %v, %v", c.which, h, ok)
		}
	}
}

func TestHeadsOfSeveralHeights(t *testing.T) { // P18.2: they aren't counted together
	b, p := fresh(t, 4)
	for who := range 4 {
		h := book.Head{Height: 1 + who, Size: 3, Root: api.ID{1}}
		adds(t, "one of each", b, p, who, by(who, h).Msg(), api.OK)
	}
	if h, ok := b.Best(); ok || h != (book.Head{}) {
		t.Errorf("Best: %v, %v", h, ok)
	}
}

func TestTheEmptyHead(t *testing.T) { // P18.2: one without entries is as good as others
	b, p := fresh(t, 4)
	for who := range 3 {
		adds(t, "without entries", b, p, who, by(who, book.Head{Height: 1}).Msg(), api.OK)
	}
	if h, ok := b.Accepted(1); !ok || h != (book.Head{Height: 1}) {
		t.Errorf("Accepted: %v, %v", h, ok)
	}
}

func TestOrder(t *testing.T) { // P18.2: as they came, at each height for itself
	b, p := fresh(t, 7)
	for i, who := range []int{4, 0, 6, 2, 5, 1, 3} {
		adds(t, "the height 8", b, p, who, by(who, at(8, i%3)).Msg(), api.OK)
		adds(t, "the height 1", b, p, 6-who, by(6-who, at(1, 0)).Msg(), api.OK)
	}
	var order []int
	for s := range b.At(8) {
		order = append(order, s.Who)
	}
	if !slices.Equal(order, []int{4, 0, 6, 2, 5, 1, 3}) {
		t.Errorf("At: %v", order)
	}
}

func TestBest(t *testing.T) { // P18.2: the greatest of the accepted ones, whichever came last
	for _, heights := range [][]int{{1, 2, 3, 4, 5, 6, 7, 8}, {8, 7, 6, 5, 4, 3, 2, 1}, {5, 2, 6, 1}} {
		b, p := fresh(t, 4)
		greatest := 0
		for _, height := range heights {
			for who := range 3 {
				adds(t, "an accepted one", b, p, who, by(who, at(height, 1)).Msg(), api.OK)
			}
			greatest = max(greatest, height)
			if h, ok := b.Best(); !ok || h != at(greatest, 1) {
				t.Errorf("of %v at %d: Best: %v, %v", heights, height, h, ok)
			}
		}
	}
	b, p := fresh(t, 4)
	for who := range 3 {
		adds(t, "enough", b, p, who, by(who, at(2, 0)).Msg(), api.OK)
	}
	for who := range 2 {
		adds(t, "too few", b, p, who, by(who, at(8, 0)).Msg(), api.OK)
		adds(t, "not of one mind", b, p, who, by(who, at(5, 0)).Msg(), api.OK)
		adds(t, "not of one mind", b, p, who+2, by(who+2, at(5, 2)).Msg(), api.OK)
	}
	if h, ok := b.Best(); !ok || h != at(2, 0) {
		t.Errorf("Best below others: %v, %v", h, ok)
	}
}

func TestAddTwice(t *testing.T) { // P18.1: it counts from whom it is, and of which height; and ahead of what it is
	b, p := fresh(t, 4)
	good := by(2, at(3, 0)).Msg()
	adds(t, "the first", b, p, 2, good, api.OK)
	adds(t, "the same once more", b, p, 2, good, api.ErrTwice)
	adds(t, "another head", b, p, 2, by(2, at(3, 1)).Msg(), api.ErrTwice)
	for what, change := range map[string]func(m *api.Msg){
		"another size":           func(m *api.Msg) { m.Num++ },
		"no size":                func(m *api.Msg) { m.Num = -1 },
		"another key":            func(m *api.Msg) { m.Data[0] = 7 },
		"a signature of nobody":  func(m *api.Msg) { m.Data[100]++ },
		"a signature of another": func(m *api.Msg) { m.Data = by(1, at(3, 0)).Msg().Data },
	} {
		m := good
		m.Data = slices.Clone(good.Data)
		change(&m)
		adds(t, what, b, p, 2, m, api.ErrTwice)
	}
	adds(t, "from another", b, p, 1, by(1, at(3, 0)).Msg(), api.OK)
	adds(t, "of another height", b, p, 2, by(2, at(4, 0)).Msg(), api.OK)
}

func TestAddRefused(t *testing.T) { // P18.1, and the order of its errors
	good := by(2, at(3, 0)).Msg()
	long, short := append(slices.Clone(good.Data), 0), good.Data[:4192]
	for _, c := range []struct {
		what   string
		from   int
		change func(m *api.Msg)
		want   api.Errno
	}{
		{"another kind", 2, func(m *api.Msg) { m.Kind = 5 }, api.ErrForm},
		{"a round", 2, func(m *api.Msg) { m.Round = 1 }, api.ErrForm},
		{"a Valid", 2, func(m *api.Msg) { m.Valid = 1 }, api.ErrForm},
		{"IDs", 2, func(m *api.Msg) { m.IDs = make([]api.ID, 1) }, api.ErrForm},
		{"a List", 2, func(m *api.Msg) { m.List = make([][]byte, 1) }, api.ErrForm},
		{"no data", 2, func(m *api.Msg) { m.Data = nil }, api.ErrShort},
		{"a byte too few", 2, func(m *api.Msg) { m.Data = short }, api.ErrShort},
		{"a byte too many", 2, func(m *api.Msg) { m.Data = long }, api.ErrRest},
		{"no key", 2, func(m *api.Msg) { m.Data[0] = 8 }, api.ErrRange},
		{"another kind, from nobody", -1, func(m *api.Msg) { m.Kind = 7 }, api.ErrForm},
		{"no data, from nobody", 4, func(m *api.Msg) { m.Data = nil }, api.ErrShort},
		{"a byte too many, from another", 1, func(m *api.Msg) { m.Data = long }, api.ErrRest},
		{"a byte too few, of no height", 2, func(m *api.Msg) { m.Height, m.Data = 0, short }, api.ErrShort},

		{"from another", 1, func(m *api.Msg) {}, api.ErrRange},
		{"as of another", 2, func(m *api.Msg) { m.Who = 3 }, api.ErrRange},
		{"from nobody", -1, func(m *api.Msg) {}, api.ErrRange},
		{"from nobody, as of nobody", -1, func(m *api.Msg) { m.Who = -1 }, api.ErrRange},
		{"from one too many", 4, func(m *api.Msg) { m.Who = 4 }, api.ErrRange},
		{"from the least one", math.MinInt, func(m *api.Msg) { m.Who = math.MinInt }, api.ErrRange},
		{"from the greatest one", math.MaxInt, func(m *api.Msg) { m.Who = math.MaxInt }, api.ErrRange},
		{"of the height 0", 2, func(m *api.Msg) { m.Height, m.Data[0] = 0, 0 }, api.ErrRange},
		{"of the height 9", 2, func(m *api.Msg) { m.Height, m.Data[0] = 9, 7 }, api.ErrRange},
		{"of no height", 2, func(m *api.Msg) { m.Height = -3 }, api.ErrRange},
		{"of the least height", 2, func(m *api.Msg) { m.Height = math.MinInt }, api.ErrRange},
		{"of the greatest height", 2, func(m *api.Msg) { m.Height = math.MaxInt }, api.ErrRange},

		{"no size", 2, func(m *api.Msg) { m.Num = -1 }, api.ErrRange},
		{"no size, another key", 2, func(m *api.Msg) { m.Num, m.Data[0] = -1, 7 }, api.ErrRange},
		{"a size that can't be written", 2, func(m *api.Msg) { m.Num = maxNum + 1 }, api.ErrRange},
		{"another size", 2, func(m *api.Msg) { m.Num++ }, api.ErrSign},
		{"the greatest size", 2, func(m *api.Msg) { m.Num = maxNum }, api.ErrSign},
		{"another root", 2, func(m *api.Msg) { m.ID[5]++ }, api.ErrSign},
		{"the height above", 2, func(m *api.Msg) { m.Height = 4 }, api.ErrSign},
		{"the height above, and its key", 2, func(m *api.Msg) { m.Height, m.Data[0] = 4, 3 }, api.ErrSign},
		{"another key", 2, func(m *api.Msg) { m.Data[0] = 3 }, api.ErrSign},
		{"a signature of nobody", 2, func(m *api.Msg) { m.Data = make([]byte, 4193); m.Data[0] = 2 }, api.ErrSign},
		{"a spoilt signature", 2, func(m *api.Msg) { m.Data[4192]++ }, api.ErrSign},
		{"a signature of another", 2, func(m *api.Msg) { m.Data = by(1, at(3, 0)).Msg().Data }, api.ErrSign},
		{"somebody else's", 1, func(m *api.Msg) { m.Who = 1 }, api.ErrSign},
	} {
		b, p := fresh(t, 4)
		m := good
		m.Data = slices.Clone(good.Data)
		c.change(&m)
		adds(t, c.what, b, p, c.from, m, c.want)
		adds(t, c.what+", and then the good one", b, p, 2, good, api.OK)
	}
}

func TestRangeAheadOfTwice(t *testing.T) { // P18.1
	b, p := fresh(t, 4)
	for who := range 3 {
		adds(t, "one of each", b, p, who, by(who, at(3, 0)).Msg(), api.OK)
	}
	for from := range 3 {
		for who := range 4 {
			if who != from {
				adds(t, "from another who has one", b, p, from, by(who, at(3, 0)).Msg(), api.ErrRange)
			}
		}
		adds(t, "what can't be read, from one who has one", b, p, from, api.Msg{Kind: 6, Who: from, Height: 3}, api.ErrShort)
	}
}

func TestWithTheKeyOfAnotherHeight(t *testing.T) { // P18.1: what layer 17 doesn't take
	text, _ := head.Bytes(at(3, 0))
	for key := range 8 {
		b, p := fresh(t, 4)
		sig, _ := rings[2].Sign(key, text)
		want := api.ErrSign
		if key == 2 {
			want = api.OK
		}
		adds(t, "with some key", b, p, 2, head.Signed{Head: at(3, 0), Who: 2, Sig: sig}.Msg(), want)
	}
}

func TestOneKeyOfSeveral(t *testing.T) { // P18.1: each number counts for itself, whatever its public key
	public := rings[0].Public()
	b, e := bundle.New(public, public, public, public)
	p := &plain{publics: []api.ID{public, public, public, public}}
	if e != api.OK {
		t.Fatal(e)
	}
	for who := range 4 {
		s := by(0, at(3, 0))
		s.Who = who
		adds(t, "from another", b, p, (who+1)%4, s.Msg(), api.ErrRange)
		adds(t, "one more", b, p, who, s.Msg(), api.OK)
		adds(t, "once more", b, p, who, s.Msg(), api.ErrTwice)
	}
	if _, ok := b.Accepted(3); !ok {
		t.Error("it isn't accepted")
	}
}

func TestTwo(t *testing.T) { // P18.3
	public, h := rings[1].Public(), at(3, 0)
	key := func(number int, h book.Head) head.Signed {
		text, _ := head.Bytes(h)
		sig, _ := rings[1].Sign(number, text)
		return head.Signed{Head: h, Who: 1, Sig: sig}
	}
	good := by(1, h)
	as := good
	as.Who = 5
	size, root := at(3, 2), at(3, 1)
	unlike := by(1, size)
	unlike.Who = 6
	spoilt := by(1, size)
	spoilt.Sig.Shown[9][9]++
	for _, c := range []struct {
		what   string
		public api.ID
		a, b   head.Signed
		want   bool
	}{
		{"two sizes", public, good, by(1, size), true},
		{"two roots", public, good, by(1, root), true},
		{"two sizes, two roots", public, by(1, size), by(1, root), true},
		{"no size, no root", public, good, by(1, book.Head{Height: 3}), true},
		{"as of others", public, as, unlike, true},
		{"of the first height", public, by(1, at(1, 0)), by(1, at(1, 1)), true},
		{"of the last height", public, by(1, at(8, 0)), by(1, at(8, 2)), true},
		{"one head twice", public, good, good, false},
		{"one head, as of two", public, good, as, false},
		{"two heights", public, good, by(1, at(4, 0)), false},
		{"two heights, all else the same", public, good, by(1, book.Head{Height: 4, Size: h.Size, Root: h.Root}), false},
		{"under another's key", rings[2].Public(), good, by(1, size), false},
		{"under no key", api.ID{}, good, by(1, size), false},
		{"one is another's", public, good, by(2, size), false},
		{"both are another's", public, by(2, h), by(2, size), false},
		{"one is spoilt", public, good, spoilt, false},
		{"one with the key of another height", public, good, key(3, size), false},
		{"both with the key of another height", public, key(3, h), key(3, size), false},
		{"with keys of two heights", public, key(2, h), key(4, size), false},
		{"with the key of the height alone", public, key(2, h), key(2, size), true},
		{"no height", public, key(0, book.Head{}), key(0, book.Head{Size: 1}), false},
		{"a height above", public, key(7, at(9, 0)), key(7, at(9, 1)), false},
		{"a size that can't be", public, good, head.Signed{Head: book.Head{Height: 3, Size: -1}, Sig: good.Sig}, false},
		{"two that nobody signed", public, head.Signed{}, head.Signed{Who: 1}, false},
		{"two heads that nobody signed", public, head.Signed{Head: h}, head.Signed{Head: size}, false},
	} {
		if bundle.Two(c.public, c.a, c.b) != c.want || bundle.Two(c.public, c.b, c.a) != c.want {
			t.Errorf("%s: want %v", c.what, c.want)
		}
	}
}

func TestAtIsLeft(t *testing.T) { // rule 6: at any item; and gone through again
	b, p := fresh(t, 4)
	for who := range 4 {
		adds(t, "one more", b, p, who, by(who, at(3, 0)).Msg(), api.OK)
	}
	heads := b.At(3)
	for left := range 4 {
		n := 0
		for s := range heads {
			if s.Who != n {
				t.Errorf("the item %d is of %d", n, s.Who)
			}
			if n++; n > left {
				break
			}
		}
		if n != left+1 {
			t.Errorf("left at %d: %d items", left, n)
		}
	}
	if !slices.Equal(slices.Collect(heads), p.of(3)) {
		t.Error("gone through again it has others")
	}
}

func TestAtIsOfWhenTheLoopBegins(t *testing.T) { // rule 6
	b, p := fresh(t, 4)
	heads := b.At(3)
	for who := range 3 {
		if !slices.Equal(slices.Collect(heads), p.of(3)) {
			t.Errorf("behind %d: others", who)
		}
		adds(t, "one more", b, p, who, by(who, at(3, 0)).Msg(), api.OK)
	}
	if len(slices.Collect(heads)) != 3 {
		t.Error("behind all: others")
	}
}

func TestDrawnHeads(t *testing.T) { // P18.1, P18.2
	r := rand.New(rand.NewSource(18))
	for signers := range need {
		for range 6 {
			b, p := fresh(t, signers)
			for range 12 * signers {
				from := r.Intn(signers)
				m := by(from, at(1+r.Intn(8), r.Intn(60)/20)).Msg()
				switch r.Intn(12) {
				case 0:
					m.Height = r.Intn(11) - 1
				case 1:
					m.Who = r.Intn(9) - 1
				case 2:
					from = r.Intn(9) - 1
				case 3:
					m.Data[r.Intn(len(m.Data))]++
				case 4:
					m.Num += r.Intn(3) - 1
				case 5:
					from = odd[r.Intn(len(odd))]
				}
				if e, want := b.Add(from, m), p.add(from, m); e != want {
					t.Fatalf("Add from %d: %v, want %v", from, e, want)
				}
			}
			same(t, "drawn heads", b, p)
		}
	}
}

func TestAllArguments(t *testing.T) { // P1
	for signers := range need {
		b, p := fresh(t, signers)
		for _, n := range append(odd, 0, 8) {
			for _, from := range append(odd, 0, signers-1, signers) {
				m := api.Msg{Kind: 6, Who: from, Height: n, Num: n, Data: make([]byte, keys.Size)}
				for _, m := range []api.Msg{m, {Kind: n, Who: n, Height: n, Round: n, Valid: n, Num: n}, {}} {
					if e, want := b.Add(from, m), p.add(from, m); e != want || e == api.OK {
						t.Errorf("Add from %d of %d: %v, want %v", from, n, e, want)
					}
				}
				s := head.Signed{Head: book.Head{Height: n, Size: from}, Who: n, Sig: keys.Sig{Number: from}}
				if bundle.Two(api.ID{1}, s, head.Signed{Head: book.Head{Height: n}, Sig: keys.Sig{Number: n - 1}}) {
					t.Errorf("Two of %d and %d", n, from)
				}
			}
		}
		same(t, "behind all", b, p)
	}
}

func TestNothingIsChangedOrKept(t *testing.T) { // P2
	list := publics(4)
	room := append(slices.Clone(list), api.ID{99})
	b, e := bundle.New(room[:4]...)
	if e != api.OK || !slices.Equal(room, append(slices.Clone(list), api.ID{99})) {
		t.Fatalf("New changes the keys, or %v", e)
	}
	clear(room)
	p := &plain{publics: list}
	for who := range 4 {
		m := by(who, at(3, 0)).Msg()
		data := append(slices.Clone(m.Data), 1, 2, 3)
		was := slices.Clone(data)
		m.Data = data[:keys.Size]
		if e := b.Add(who, m); e != api.OK || p.add(who, m) != api.OK || !bytes.Equal(data, was) {
			t.Errorf("Add changes the message, or %v", e)
		}
		clear(data)
	}
	same(t, "with all cleared", b, p)
	for s := range b.At(3) {
		s.Size, s.Sig.Number, s.Sig.Path = 0, 0, [keys.Depth]api.ID{}
		s.Sig.Shown[0] = api.ID{}
	}
	same(t, "with what was answered changed", b, p)
}

func TestBundlesAreApart(t *testing.T) { // P2
	one, p := fresh(t, 4)
	two, q := fresh(t, 4)
	for who := range 3 {
		adds(t, "one", one, p, who, by(who, at(3, 0)).Msg(), api.OK)
		adds(t, "two", two, q, who, by(who, at(3, 1)).Msg(), api.OK)
	}
	same(t, "one", one, p)
	same(t, "two", two, q)
}
