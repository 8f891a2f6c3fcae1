package book_test

import (
	"bytes"
	"math"
	"reflect"
	"slices"
	"testing"

	"scrivener/api"
	"scrivener/book"
	"scrivener/pack"
)

// run: bytes with how many they are ahead.
func run(b []byte) []byte {
	return append([]byte{byte(len(b) >> 16), byte(len(b) >> 8), byte(len(b))}, b...)
}

// digits: a number's bytes, the highest first, without noughts ahead.
func digits(n int) []byte {
	var b []byte
	for ; n > 0; n /= 256 {
		b = append([]byte{byte(n)}, b...)
	}
	return b
}

// entryOf: an entry's bytes, written out.
func entryOf(who, num int, text []byte) []byte {
	b := []byte{1}
	if who > 0 {
		b = slices.Concat(b, []byte{1}, run(digits(who)))
	}
	b = slices.Concat(b, []byte{5}, run(digits(num)))
	if len(text) > 0 {
		b = slices.Concat(b, []byte{7}, run(text))
	}
	return b
}

// batchOf: a batch's bytes, written out.
func batchOf(list ...[]byte) []byte {
	var runs []byte
	for _, entry := range list {
		runs = append(runs, run(entry)...)
	}
	if len(list) == 0 {
		return []byte{2}
	}
	return slices.Concat([]byte{2, 9}, run(runs))
}

// some: so many bytes.
func some(n int) []byte {
	b := make([]byte, n)
	for i := range b {
		b[i] = byte(i*7 + n)
	}
	return b
}

// written: a message's bytes.
func written(t *testing.T, m api.Msg) []byte {
	t.Helper()
	b, e := pack.Write(m)
	if e != api.OK {
		t.Fatalf("Write: %v", e)
	}
	return b
}

var goodNums = []int{1, 2, 255, 256, 65536, 1<<40 - 1, 1 << 40}

var far = []int{math.MinInt, math.MinInt + 1, -1 << 40, -1, 1<<40 + 1, math.MaxInt - 1, math.MaxInt}

// split: what Split goes through; their numbers must be from 0 on.
func split(t *testing.T, b []byte) [][]byte {
	t.Helper()
	var list [][]byte
	for i, entry := range book.Split(b) {
		if i != len(list) {
			t.Errorf("the entry %d has the number %d", len(list), i)
		}
		list = append(list, entry)
	}
	return list
}

// alike: are two lists the same bytes?
func alike(a, b [][]byte) bool {
	return slices.EqualFunc(a, b, bytes.Equal)
}

func TestLimits(t *testing.T) { // P11.1 to P11.3
	if book.Request != 1 || book.Batch != 2 || book.MaxWho != 15 || book.MaxText != 256 || book.MaxBatch != 8 || book.MaxEntries != 1000 {
		t.Error("the limits")
	}
}

func TestEntriesAreChecked(t *testing.T) { // P11.1
	for who := 0; who <= 15; who++ {
		for _, num := range goodNums {
			for _, n := range []int{0, 1, 2, 255, 256} {
				want := entryOf(who, num, some(n))
				b, e := book.Entry(who, num, some(n))
				if e != api.OK || !bytes.Equal(b, want) {
					t.Fatalf("Entry(%d, %d, %d bytes): %v, %v", who, num, n, b, e)
				}
				m, e := book.Check(want)
				if e != api.OK || m.Kind != 1 || m.Who != who || m.Num != num || !bytes.Equal(m.Data, some(n)) {
					t.Fatalf("Check of %d, %d, %d bytes: %v, %v", who, num, n, m, e)
				}
				m.Kind, m.Who, m.Num, m.Data = 0, 0, 0, nil
				if !reflect.DeepEqual(m, api.Msg{}) {
					t.Fatalf("Check of %d, %d, %d bytes answers more: %v", who, num, n, m)
				}
			}
		}
	}
}

// refuses: does Check refuse bytes with an error?
func refuses(t *testing.T, what string, b []byte, want api.Errno) {
	t.Helper()
	if m, e := book.Check(b); e != want || !reflect.DeepEqual(m, api.Msg{}) {
		t.Errorf("Check of %s: %v, %v; want %v", what, m, e, want)
	}
}

func TestCheckRefusesWhatIsNoMessage(t *testing.T) { // P11.1: layer 2's errors
	refuses(t, "nothing", nil, api.ErrShort)
	refuses(t, "a kind 0", []byte{0}, api.ErrTag)
	refuses(t, "a kind 32", []byte{32, 5, 0, 0, 1, 1}, api.ErrTag)
	refuses(t, "a number with a nought", []byte{1, 5, 0, 0, 2, 0, 1}, api.ErrForm)
	refuses(t, "a field twice", []byte{1, 5, 0, 0, 1, 1, 5, 0, 0, 1, 1}, api.ErrTag)
	refuses(t, "a Num above the greatest", append([]byte{1, 5}, run(digits(1<<40+1))...), api.ErrForm)
	refuses(t, "too much Data, and another kind", slices.Concat([]byte{3, 7}, run(some(1<<17+1))), api.ErrLong)
	whole := entryOf(15, 258, some(256))
	for n := range whole {
		_, want := pack.Read(whole[:n])
		if want == api.OK { // cut between two fields: without Num, or without Data
			want = api.ErrForm
			if bytes.Equal(whole[:n], entryOf(15, 258, nil)) {
				want = api.OK
			}
		}
		if _, e := book.Check(whole[:n]); e != want {
			t.Errorf("Check of the first %d bytes: %v, want %v", n, e, want)
		}
	}
	refuses(t, "an entry with a byte more", append(slices.Clone(whole), 0), api.ErrTag)
	refuses(t, "an entry with a tag more", append(slices.Clone(whole), 8), api.ErrShort)
}

func TestCheckRefusesOtherFields(t *testing.T) { // P11.1: ErrForm
	good := api.Msg{Kind: 1, Who: 3, Num: 7, Data: []byte("x")}
	for what, spoil := range map[string]func(*api.Msg){
		"a Height":              func(m *api.Msg) { m.Height = 1 },
		"a Round":               func(m *api.Msg) { m.Round = 1 },
		"a Valid":               func(m *api.Msg) { m.Valid = 1 << 40 },
		"an ID":                 func(m *api.Msg) { m.ID[31] = 1 },
		"IDs":                   func(m *api.Msg) { m.IDs = make([]api.ID, 1) },
		"a List":                func(m *api.Msg) { m.List = [][]byte{[]byte("y")} },
		"a List of one nothing": func(m *api.Msg) { m.List = [][]byte{nil} },
		"a Who 16":              func(m *api.Msg) { m.Who = 16 },
		"a Who 17":              func(m *api.Msg) { m.Who = 17 },
		"the greatest Who":      func(m *api.Msg) { m.Who = 1 << 40 },
		"no Num":                func(m *api.Msg) { m.Num = 0 },
		"the kind of a batch":   func(m *api.Msg) { m.Kind = 2 },
		"the greatest kind":     func(m *api.Msg) { m.Kind = 31 },
	} {
		m := good
		spoil(&m)
		refuses(t, what, written(t, m), api.ErrForm)
		m.Data = some(257)
		refuses(t, what+", and too much Data", written(t, m), api.ErrForm)
	}
	for _, n := range []int{257, 258, 300, 512, 1 << 17} {
		m := good
		m.Data = some(n)
		refuses(t, "too much Data", written(t, m), api.ErrLong)
	}
}

func TestEntryRefuses(t *testing.T) { // P11.1: Write's error, then Check's
	for _, x := range []struct {
		who, num, text int
		want           api.Errno
	}{
		{-1, 1, 0, api.ErrRange}, {1, -1, 0, api.ErrRange}, {1<<40 + 1, 1, 0, api.ErrRange}, {1, 1<<40 + 1, 0, api.ErrRange},
		{16, 1, 0, api.ErrForm}, {17, 1, 1, api.ErrForm}, {1 << 40, 1, 0, api.ErrForm}, {1, 0, 0, api.ErrForm}, {0, 0, 0, api.ErrForm},
		{1, 1, 257, api.ErrLong}, {0, 1 << 40, 1 << 17, api.ErrLong}, {1, 1, 1<<17 + 1, api.ErrLong},
		{16, 1, 257, api.ErrForm}, {1, 0, 257, api.ErrForm}, {16, 1, 1 << 17, api.ErrForm},
		{16, 1, 1<<17 + 1, api.ErrLong}, {1, 0, 1<<17 + 1, api.ErrLong}, {-1, 1, 1<<17 + 1, api.ErrRange}, {16, -1, 0, api.ErrRange},
	} {
		if b, e := book.Entry(x.who, x.num, some(x.text)); e != x.want || b != nil {
			t.Errorf("Entry(%d, %d, %d bytes): %v, want %v", x.who, x.num, x.text, e, x.want)
		}
	}
	for _, n := range far {
		if b, e := book.Entry(n, 1, nil); e != api.ErrRange || b != nil {
			t.Errorf("Entry(%d, 1): %v", n, e)
		}
		if b, e := book.Entry(1, n, nil); e != api.ErrRange || b != nil {
			t.Errorf("Entry(1, %d): %v", n, e)
		}
	}
}

func TestJoinAndSplit(t *testing.T) { // P11.2
	all := [][]byte{entryOf(1, 1, nil), []byte("no entry"), nil, entryOf(2, 9, some(256)), {}, {0}, some(1000), entryOf(1, 1, nil)}
	for n := range 9 {
		for at := 0; at+n <= len(all); at++ {
			list := all[at : at+n]
			b, e := book.Join(list...)
			if e != api.OK || !bytes.Equal(b, batchOf(list...)) {
				t.Fatalf("Join of %d: %v", n, e)
			}
			if got := split(t, b); !alike(got, list) {
				t.Errorf("Split of %d: %v", n, got)
			}
		}
	}
	if b, e := book.Join(); e != api.OK || !bytes.Equal(b, []byte{2}) {
		t.Errorf("Join of none: %v, %v", b, e)
	}
}

func TestJoinRefuses(t *testing.T) { // P11.2: ErrLong
	for _, n := range []int{9, 10, 64, 65, 100} {
		if b, e := book.Join(make([][]byte, n)...); e != api.ErrLong || b != nil {
			t.Errorf("Join of %d: %v", n, e)
		}
	}
	half := make([]byte, 1<<16)
	if b, e := book.Join(half, half); e != api.OK || !alike(split(t, b), [][]byte{half, half}) {
		t.Errorf("Join of just as much as a message has: %v", e)
	}
	if b, e := book.Join(half, half, []byte{1}); e != api.ErrLong || b != nil {
		t.Errorf("Join of more than a message has: %v", e)
	}
}

func TestSplitOfOtherBytes(t *testing.T) { // P11.2
	list := [][]byte{[]byte("a"), []byte("bc")}
	whole := api.Msg{Kind: 2, Who: 99, Height: 2, Round: 3, Valid: 4, Num: 5, ID: api.ID{6}, Data: some(1000), IDs: make([]api.ID, 64), List: list}
	if got := split(t, written(t, whole)); !alike(got, list) {
		t.Errorf("Split of a batch with other fields: %v", got)
	}
	for kind := 1; kind <= 31; kind++ {
		m := whole
		m.Kind = kind
		if got := split(t, written(t, m)); kind != 2 && len(got) > 0 {
			t.Errorf("Split of the kind %d: %v", kind, got)
		}
	}
	for n := range 65 {
		m := api.Msg{Kind: 2, List: slices.Repeat([][]byte{{7}}, n)}
		if got := split(t, written(t, m)); n <= 8 && !alike(got, m.List) || n > 8 && len(got) > 0 {
			t.Errorf("Split of %d: %d", n, len(got))
		}
	}
	b := batchOf(list...)
	for n := range b {
		if got := split(t, b[:n]); len(got) > 0 {
			t.Errorf("Split of the first %d bytes: %v", n, got)
		}
	}
	for _, b := range [][]byte{nil, {}, {0}, {2}, {32}, {2, 9, 0, 0, 0}, append(slices.Clone(b), 0), []byte("no batch"), entryOf(1, 1, nil)} {
		if got := split(t, b); len(got) > 0 {
			t.Errorf("Split of %v: %v", b, got)
		}
	}
}

func TestSplitIsLeftAndGoneThroughAnew(t *testing.T) { // P11.2, rule 6
	list := [][]byte{{1}, {2, 2}, {3}, {4}, {5}, {6}, {7}, {8}}
	all := book.Split(batchOf(list...))
	for stop := range list {
		seen := 0
		for i, entry := range all {
			if i != seen || !bytes.Equal(entry, list[i]) {
				t.Errorf("the entry %d: %d, %v", seen, i, entry)
			}
			seen++
			clear(entry[:cap(entry)]) // what is answered is new memory: the next loop doesn't see it
			if i == stop {
				break
			}
		}
		if seen != stop+1 {
			t.Errorf("left at %d: %d seen", stop, seen)
		}
	}
}

func TestWhatEntriesAreMadeOfStays(t *testing.T) { // P2
	room := some(40)
	ahead := slices.Clone(room)
	b, _ := book.Entry(1, 1, room[:20])
	want := slices.Clone(b)
	if !bytes.Equal(room, ahead) {
		t.Error("Entry changes the text")
	}
	clear(room)
	if !bytes.Equal(b, want) {
		t.Error("Entry shares the text")
	}
	m, _ := book.Check(b)
	if !bytes.Equal(b, want) {
		t.Error("Check changes the bytes")
	}
	clear(b)
	if !bytes.Equal(m.Data, ahead[:20]) {
		t.Error("Check shares the bytes")
	}

	list := [][]byte{some(3), some(4), some(5)}
	joined, _ := book.Join(list[:2]...)
	if !alike(list, [][]byte{some(3), some(4), some(5)}) {
		t.Error("Join changes its list")
	}
	clear(list[0])
	clear(list)
	if !bytes.Equal(joined, batchOf(some(3), some(4))) {
		t.Error("Join shares its list")
	}
	all := book.Split(joined)
	if got := split(t, joined); !alike(got, [][]byte{some(3), some(4)}) || !bytes.Equal(joined, batchOf(some(3), some(4))) {
		t.Error("Split changes the batch")
	}
	clear(joined)
	n := 0
	for range all { // Split has read the bytes: it keeps none of them
		n++
	}
	if n != 2 {
		t.Error("Split keeps the batch")
	}
}
