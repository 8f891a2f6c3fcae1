package head_test

import (
	"bytes"
	"math"
	"slices"
	"testing"

	"scrivener/api"
	"scrivener/book"
	"scrivener/head"
	"scrivener/keys"
	"scrivener/pack"
)

// maxNum is layer 2's MaxNum, written out.
const maxNum = 1099511627776

// wrong are numbers that no message can have.
var wrong = []int{math.MinInt, -258, -1, maxNum + 1, math.MaxInt}

// field: a number as a field of a message's bytes, written out; 0 is left out.
func field(tag byte, n int) []byte {
	var digits []byte
	for ; n > 0; n /= 256 {
		digits = append([]byte{byte(n % 256)}, digits...)
	}
	if len(digits) == 0 {
		return nil
	}
	return append([]byte{tag, 0, 0, byte(len(digits))}, digits...)
}

// written: a head's bytes, written out.
func written(h book.Head) []byte {
	b := append([]byte{6}, field(2, h.Height)...)
	b = append(b, field(5, h.Size)...)
	if h.Root != (api.ID{}) {
		b = append(append(b, 6, 0, 0, 32), h.Root[:]...)
	}
	return b
}

// at: a head of a height.
func at(height int) book.Head {
	return book.Head{Height: height, Size: 40 + height, Root: api.ID{byte(height), 31: 7}}
}

// signed: a head that was signed.
func signed(t *testing.T, r *keys.Ring, who int, h book.Head) head.Signed {
	t.Helper()
	s, e := head.Sign(r, who, h)
	if e != api.OK {
		t.Fatalf("Sign of %v: %v", h, e)
	}
	return s
}

// like: are two messages the same?
func like(a, b api.Msg) bool {
	return a.Kind == b.Kind && a.Who == b.Who && a.Height == b.Height && a.Round == b.Round && a.Valid == b.Valid && a.Num == b.Num &&
		a.ID == b.ID && bytes.Equal(a.Data, b.Data) && len(a.IDs) == 0 && len(b.IDs) == 0 && len(a.List) == 0 && len(b.List) == 0
}

func TestLimits(t *testing.T) {
	if head.Kind != 6 || head.MaxHeight != 8 {
		t.Error("the limits")
	}
}

func TestSignedEmbedsAHead(t *testing.T) {
	s := head.Signed{Head: book.Head{Height: 1, Size: 2, Root: api.ID{3}}, Who: 4}
	if s.Height != 1 || s.Size != 2 || s.Root != (api.ID{3}) {
		t.Error("what a Signed has of its Head")
	}
}

func TestBytes(t *testing.T) { // P17.1
	for _, h := range []book.Head{
		{}, {Height: 1}, {Size: 1}, {Root: api.ID{1}}, {Root: api.ID{31: 1}}, at(3),
		{Height: 258, Size: 70000, Root: api.ID{1, 2, 3}},
		{Height: maxNum, Size: maxNum, Root: api.ID{255}},
	} {
		if b, e := head.Bytes(h); e != api.OK || !bytes.Equal(b, written(h)) {
			t.Errorf("Bytes of %v: %v, %v", h, b, e)
		}
	}
	want := append([]byte{6, 2, 0, 0, 1, 3, 5, 0, 0, 2, 1, 2, 6, 0, 0, 32, 9}, make([]byte, 31)...)
	if b, e := head.Bytes(book.Head{Height: 3, Size: 258, Root: api.ID{9}}); e != api.OK || !bytes.Equal(b, want) {
		t.Errorf("Bytes, byte by byte: %v, %v", b, e)
	}
}

func TestBytesOfWrongNumbers(t *testing.T) { // P17.1: layer 2's error
	for _, n := range wrong {
		for _, h := range []book.Head{{Height: n, Size: 1}, {Height: 1, Size: n}, {Height: n, Size: n}} {
			if b, e := head.Bytes(h); e != api.ErrRange || b != nil {
				t.Errorf("Bytes of %v: %v, %v", h, b, e)
			}
		}
	}
}

func TestSign(t *testing.T) { // P17.2: the key of a height is that of the number below it
	for _, seed := range []api.ID{{}, {1}} {
		r := keys.New(seed)
		for _, height := range []int{3, 8, 1, 2, 4, 5, 6, 7} {
			for _, h := range []book.Head{{Height: height}, at(height), {Height: height, Size: maxNum, Root: api.ID{5}}} {
				for _, who := range []int{0, 3, 15, maxNum} {
					sig, _ := keys.New(seed).Sign(height-1, written(h))
					if s, e := head.Sign(r, who, h); e != api.OK || s != (head.Signed{Head: h, Who: who, Sig: sig}) {
						t.Errorf("Sign of %v by %d: %v", h, who, e)
					}
				}
			}
		}
	}
}

func TestExample(t *testing.T) {
	if s := signed(t, keys.New(api.ID{1}), 0, at(3)); s.Sig.Number != 2 {
		t.Errorf("the key %d", s.Sig.Number)
	}
}

func TestSignRefused(t *testing.T) { // P17.2, and the order of its errors
	r := keys.New(api.ID{1})
	public, was := r.Public(), signed(t, r, 2, at(8))
	for _, c := range []struct {
		what              string
		who, height, size int
		want              api.Errno
	}{
		{"a height of 0", 0, 0, 1, api.ErrRange},
		{"no height", 0, -1, 1, api.ErrRange},
		{"a height that can't be written", 0, maxNum + 1, 1, api.ErrRange},
		{"the greatest height", 0, math.MaxInt, 1, api.ErrRange},
		{"the least height", 0, math.MinInt, 1, api.ErrRange},
		{"no size", 0, 8, -1, api.ErrRange},
		{"a size that can't be written", 0, 8, maxNum + 1, api.ErrRange},
		{"nobody", -1, 8, 1, api.ErrRange},
		{"the least one", math.MinInt, 8, 1, api.ErrRange},
		{"one that can't be written", maxNum + 1, 8, 1, api.ErrRange},
		{"the greatest one", math.MaxInt, 8, 1, api.ErrRange},
		{"no key, no size", 0, 9, -1, api.ErrRange},
		{"no key, a size that can't be written", 0, 9, maxNum + 1, api.ErrRange},
		{"no key, nobody", -1, 9, 1, api.ErrRange},
		{"no key, one that can't be written", maxNum + 1, 9, 1, api.ErrRange},
		{"no key", 0, 9, 1, api.ErrFull},
		{"no key, the greatest who", maxNum, 9, maxNum, api.ErrFull},
		{"no key by far", 0, 264, 1, api.ErrFull},
		{"the greatest height that can be written", 0, maxNum, 1, api.ErrFull},
	} {
		s, e := head.Sign(r, c.who, book.Head{Height: c.height, Size: c.size, Root: api.ID{1}})
		if e != c.want || s != (head.Signed{}) {
			t.Errorf("%s: %v, want %v", c.what, e, c.want)
		}
	}
	if r.Public() != public || signed(t, r, 2, at(8)) != was {
		t.Error("a refused call has changed the keys")
	}
}

func TestNoKeySignsTwoThings(t *testing.T) { // whoever signs a head signs the same bytes, and each height has a key of its own
	r := keys.New(api.ID{1})
	numbers := map[int]int{}
	for height := 1; height <= 8; height++ {
		one, two := signed(t, r, 0, at(height)), signed(t, r, 9, at(height))
		if one.Sig != two.Sig {
			t.Errorf("of the height %d: who signs is signed too", height)
		}
		numbers[one.Sig.Number]++
	}
	if len(numbers) != 8 {
		t.Errorf("%d keys for 8 heights", len(numbers))
	}
}

func TestCheck(t *testing.T) { // P17.3
	r := keys.New(api.ID{1})
	public, other := r.Public(), keys.New(api.ID{2}).Public()
	for height := 1; height <= 8; height++ {
		for _, h := range []book.Head{{Height: height}, at(height), {Height: height, Size: maxNum, Root: api.ID{5}}} {
			s := signed(t, r, 1, h)
			if e := s.Check(public); e != api.OK {
				t.Errorf("of %v: %v", h, e)
			}
			for _, p := range []api.ID{other, {}, s.Root, s.Sig.Path[2]} {
				if e := s.Check(p); e != api.ErrSign {
					t.Errorf("of %v under another public key: %v", h, e)
				}
			}
		}
	}
}

func TestCheckOfWhatWasChanged(t *testing.T) { // P17.3
	r := keys.New(api.ID{1})
	public, was := r.Public(), signed(t, r, 1, at(3))
	for what, change := range map[string]func(s *head.Signed){
		"the height above":       func(s *head.Signed) { s.Height++ },
		"the height below":       func(s *head.Signed) { s.Height-- },
		"the height, and key":    func(s *head.Signed) { s.Height, s.Sig.Number = 4, 3 },
		"the size above":         func(s *head.Signed) { s.Size++ },
		"the size below":         func(s *head.Signed) { s.Size-- },
		"no size":                func(s *head.Signed) { s.Size = 0 },
		"the root":               func(s *head.Signed) { s.Root[31]++ },
		"no root":                func(s *head.Signed) { s.Root = api.ID{} },
		"the first secret":       func(s *head.Signed) { s.Sig.Shown[0][0]++ },
		"the last sum":           func(s *head.Signed) { s.Sig.Other[63][31]++ },
		"the path":               func(s *head.Signed) { s.Sig.Path[2][31]++ },
		"the key":                func(s *head.Signed) { s.Sig.Number = 3 },
		"no key, above":          func(s *head.Signed) { s.Sig.Number = 8 },
		"no key, below":          func(s *head.Signed) { s.Sig.Number = -1 },
		"no key by far":          func(s *head.Signed) { s.Sig.Number = math.MaxInt },
		"no key by far, below":   func(s *head.Signed) { s.Sig.Number = math.MinInt },
		"a signature of another": func(s *head.Signed) { s.Sig = signed(t, r, 1, at(2)).Sig },
		"no signature":           func(s *head.Signed) { s.Sig = keys.Sig{Number: 2} },
	} {
		s := was
		change(&s)
		if e := s.Check(public); e != api.ErrSign {
			t.Errorf("%s: %v", what, e)
		}
	}
	for _, who := range []int{0, 2, maxNum, maxNum + 1, -1, math.MinInt} {
		s := was
		s.Who = who
		if e := s.Check(public); e != api.OK {
			t.Errorf("as of %d: %v", who, e)
		}
	}
}

func TestCheckOfAnotherKey(t *testing.T) { // P17.3: a signature alone is good; with the key of another height it counts for nothing
	r := keys.New(api.ID{1})
	for height := range 12 {
		for key := range 8 {
			sig, _ := r.Sign(key, written(at(height)))
			want := api.ErrSign
			if key == height-1 {
				want = api.OK
			}
			s := head.Signed{Head: at(height), Sig: sig}
			if e := s.Check(r.Public()); e != want || sig.Check(r.Public(), written(at(height))) != api.OK {
				t.Errorf("of the height %d with the key %d: %v", height, key, e)
			}
		}
	}
}

func TestCheckOfWrongNumbers(t *testing.T) { // P17.3, and the order of its errors
	r := keys.New(api.ID{1})
	for _, c := range []struct {
		what              string
		height, size, key int
		want              api.Errno
	}{
		{"no height, and its key", -1, 1, -2, api.ErrRange},
		{"no height, another key", -1, 1, 3, api.ErrRange},
		{"the least height", math.MinInt, 1, math.MaxInt, api.ErrRange},
		{"a height that can't be written, and its key", maxNum + 1, 1, maxNum, api.ErrRange},
		{"a height that can't be written, another key", maxNum + 1, 1, 3, api.ErrRange},
		{"no size, another key", 3, -1, 3, api.ErrRange},
		{"no size, its key", 3, -1, 2, api.ErrRange},
		{"a size that can't be written, another key", 3, maxNum + 1, 3, api.ErrRange},
		{"a height of 0, and its key", 0, 1, -1, api.ErrRange},
		{"a height of 0, the first key", 0, 1, 0, api.ErrSign},
		{"a height of 0, another key", 0, 1, -2, api.ErrSign},
		{"a height of 9, and its key", 9, 1, 8, api.ErrRange},
		{"a height of 9, the last key", 9, 1, 7, api.ErrSign},
		{"a height of 9, another key", 9, 1, 9, api.ErrSign},
		{"the greatest height, and its key", maxNum, 1, maxNum - 1, api.ErrRange},
		{"the greatest height, another key", maxNum, 1, 7, api.ErrSign},
	} {
		s := head.Signed{Head: book.Head{Height: c.height, Size: c.size}, Sig: keys.Sig{Number: c.key}}
		if e := s.Check(r.Public()); e != c.want {
			t.Errorf("%s: %v, want %v", c.what, e, c.want)
		}
	}
}

func TestMsg(t *testing.T) { // P17.4
	r := keys.New(api.ID{1})
	for height := 1; height <= 8; height++ {
		for _, who := range []int{0, 3, maxNum} {
			s := signed(t, r, who, at(height))
			want := api.Msg{Kind: 6, Who: who, Height: height, Num: 40 + height, ID: at(height).Root, Data: s.Sig.Bytes()}
			if m := s.Msg(); !like(m, want) || len(m.Data) != 4193 {
				t.Errorf("of the height %d by %d: another message", height, who)
			}
		}
	}
	s := signed(t, r, 1, at(2))
	s.Who, s.Height, s.Size = -1, maxNum+1, math.MinInt // it is told as it is
	if m := s.Msg(); !like(m, api.Msg{Kind: 6, Who: -1, Height: maxNum + 1, Num: math.MinInt, ID: at(2).Root, Data: s.Sig.Bytes()}) {
		t.Error("of numbers that can't be written: another message")
	}
}

func TestRead(t *testing.T) { // P17.4
	r := keys.New(api.ID{1})
	for height := 1; height <= 8; height++ {
		for _, who := range []int{0, 3, maxNum} {
			s := signed(t, r, who, at(height))
			if got, e := head.Read(s.Msg()); e != api.OK || got != s {
				t.Errorf("of the height %d by %d: %v", height, who, e)
			}
			b, e := pack.Write(s.Msg())
			m, f := pack.Read(b)
			if got, g := head.Read(m); e != api.OK || f != api.OK || g != api.OK || got != s {
				t.Errorf("of the height %d by %d, as bytes: %v, %v, %v", height, who, e, f, g)
			}
		}
	}
}

func TestReadOfAnyNumbers(t *testing.T) { // P17.4: nothing is asked of Who, Height, Num and ID
	s := signed(t, keys.New(api.ID{1}), 1, at(3))
	for _, n := range append([]int{0, 1, 8, 9, maxNum}, wrong...) {
		for _, h := range []book.Head{{Height: n}, {Size: n, Root: api.ID{1}}, {Height: n, Size: n}} {
			want := head.Signed{Head: h, Who: n, Sig: s.Sig}
			m := api.Msg{Kind: 6, Who: n, Height: h.Height, Num: h.Size, ID: h.Root, Data: s.Sig.Bytes(), IDs: []api.ID{}, List: [][]byte{}}
			if got, e := head.Read(m); e != api.OK || got != want {
				t.Errorf("of %v by %d: %v", h, n, e)
			}
		}
	}
}

func TestReadRefused(t *testing.T) { // P17.4, and the order of its errors
	good := signed(t, keys.New(api.ID{1}), 1, at(3)).Msg()
	forms := map[string]func(m *api.Msg){
		"a kind of 0":        func(m *api.Msg) { m.Kind = 0 },
		"a kind of 5":        func(m *api.Msg) { m.Kind = 5 },
		"a kind of 7":        func(m *api.Msg) { m.Kind = 7 },
		"a kind of -6":       func(m *api.Msg) { m.Kind = -6 },
		"a kind of 262":      func(m *api.Msg) { m.Kind = 262 },
		"the greatest kind":  func(m *api.Msg) { m.Kind = math.MaxInt },
		"a round":            func(m *api.Msg) { m.Round = 1 },
		"a round below 0":    func(m *api.Msg) { m.Round = -1 },
		"the greatest round": func(m *api.Msg) { m.Round = math.MaxInt },
		"a Valid":            func(m *api.Msg) { m.Valid = 1 },
		"a Valid below 0":    func(m *api.Msg) { m.Valid = math.MinInt },
		"an ID in IDs":       func(m *api.Msg) { m.IDs = make([]api.ID, 1) },
		"nothing in a List":  func(m *api.Msg) { m.List = make([][]byte, 1) },
		"many in a List":     func(m *api.Msg) { m.List = make([][]byte, 99) },
	}
	datas := map[string]struct {
		data []byte
		want api.Errno
	}{
		"no data":                {nil, api.ErrShort},
		"a byte":                 {[]byte{8}, api.ErrShort},
		"a byte too few":         {good.Data[:4192], api.ErrShort},
		"a byte too many":        {append(slices.Clone(good.Data), 0), api.ErrRest},
		"no key":                 {append([]byte{8}, good.Data[1:]...), api.ErrRange},
		"no key by far":          {append([]byte{255}, good.Data[1:]...), api.ErrRange},
		"no key, a byte too few": {append([]byte{8}, good.Data[1:4192]...), api.ErrShort},
		"no key, one too many":   {append([]byte{8}, make([]byte, 4193)...), api.ErrRest},
	}
	refused := func(what string, m api.Msg, want api.Errno) {
		t.Helper()
		if s, e := head.Read(m); e != want || s != (head.Signed{}) {
			t.Errorf("%s: %v, want %v", what, e, want)
		}
	}
	for data, d := range datas {
		m := good
		m.Data = d.data
		refused(data, m, d.want)
		for form, change := range forms {
			m := good
			m.Data = d.data
			change(&m)
			refused(form+", "+data, m, api.ErrForm)
		}
	}
	for form, change := range forms {
		m := good
		change(&m)
		refused(form, m, api.ErrForm)
	}
	refused("nothing", api.Msg{}, api.ErrForm)
	refused("nothing but its kind", api.Msg{Kind: 6}, api.ErrShort)
}

func TestReadLooksAtNoSignature(t *testing.T) { // P17.4: Check does
	s := head.Signed{Head: at(3), Who: 1, Sig: keys.Sig{Number: 7}}
	if got, e := head.Read(s.Msg()); e != api.OK || got != s || got.Check(api.ID{}) != api.ErrSign {
		t.Errorf("of a head that nobody signed: %v", e)
	}
}

func TestAllArguments(t *testing.T) { // P1
	r := keys.New(api.ID{1})
	odd := append([]int{0, 1, 8, 9, 256, maxNum}, wrong...)
	for _, height := range odd {
		for _, n := range odd {
			h := book.Head{Height: height, Size: n}
			head.Bytes(h)
			head.Sign(r, n, h)
			for _, key := range odd {
				s := head.Signed{Head: h, Who: n, Sig: keys.Sig{Number: key}}
				if s.Check(r.Public()) == api.OK {
					t.Errorf("of %v, which nobody signed: it is signed", h)
				}
				s.Msg()
				head.Read(api.Msg{Kind: height, Height: key, Round: n})
			}
		}
	}
}

func TestNothingIsChangedOrShared(t *testing.T) { // P2
	r := keys.New(api.ID{1})
	s := signed(t, r, 1, at(3))
	one, _ := head.Bytes(s.Head)
	clear(one[:cap(one)])
	if two, _ := head.Bytes(s.Head); !bytes.Equal(two, written(s.Head)) {
		t.Error("two answers of Bytes share memory")
	}
	m, was := s.Msg(), s.Msg()
	room := append(slices.Clone(m.Data), 1, 2, 3)
	m.Data = room[:4193]
	got, e := head.Read(m)
	if !like(m, was) || !bytes.Equal(room[4193:], []byte{1, 2, 3}) {
		t.Error("Read changes the message")
	}
	clear(room)
	if e != api.OK || got != s || got.Check(r.Public()) != api.OK {
		t.Error("Read keeps the message")
	}
	m = s.Msg()
	clear(m.Data[:cap(m.Data)])
	if !like(s.Msg(), was) || signed(t, r, 1, at(3)) != s {
		t.Error("two answers of Msg share memory")
	}
}
