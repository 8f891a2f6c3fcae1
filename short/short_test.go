package short_test

import (
	"bytes"
	"crypto/sha256"
	"encoding/binary"
	"math"
	"math/rand"
	"slices"
	"testing"

	"scrivener/api"
	"scrivener/short"
)

// maxSize is the most entries of a list.
const maxSize = 1 << 40

// sumOf: a text's sum of so many bytes, written out.
func sumOf(count int, text []byte) api.ID {
	id := sha256.Sum256(text)
	for i := count; i < 32; i++ {
		id[i] = 0
	}
	return id
}

// cutOf: the greatest power of two below n.
func cutOf(n int) int {
	k := 1
	for 2*k < n {
		k *= 2
	}
	return k
}

func nodeOf(count int, left, right api.ID) api.ID {
	return sumOf(count, append(append([]byte{1}, left[:]...), right[:]...))
}

// rootOf: the root of entries, written out.
func rootOf(count int, list [][]byte) api.ID {
	switch len(list) {
	case 0:
		return sumOf(count, nil)
	case 1:
		return sumOf(count, append([]byte{0}, list[0]...))
	}
	k := cutOf(len(list))
	return nodeOf(count, rootOf(count, list[:k]), rootOf(count, list[k:]))
}

// wayOf: the way of an entry, written out.
func wayOf(count int, list [][]byte, at int) []api.ID {
	if len(list) == 1 {
		return nil
	}
	k := cutOf(len(list))
	if at < k {
		return append(wayOf(count, list[:k], at), rootOf(count, list[k:]))
	}
	return append(wayOf(count, list[k:], at-k), rootOf(count, list[:k]))
}

// leadsTo: to what a path leads from an entry, written out; false: it has too few sums, or too many.
func leadsTo(count int, entry []byte, at, size int, path []api.ID) (api.ID, bool) {
	if size == 1 {
		return sumOf(count, append([]byte{0}, entry...)), len(path) == 0
	}
	if len(path) == 0 {
		return api.ID{}, false
	}
	rest, last := path[:len(path)-1], path[len(path)-1]
	if k := cutOf(size); at >= k {
		right, ok := leadsTo(count, entry, at-k, size-k, rest)
		return nodeOf(count, last, right), ok
	} else {
		left, ok := leadsTo(count, entry, at, k, rest)
		return nodeOf(count, left, last), ok
	}
}

// cuts: some, and how many bytes of a sum count by them.
var cuts = map[short.Cut]int{
	math.MinInt: 1, -256: 1, -1: 1, 0: 1, 1: 1, 2: 2, 3: 3, 8: 8, 20: 20, 31: 31,
	32: 32, 33: 32, 64: 32, 255: 32, 256: 32, 257: 32, 1 << 32: 32, 1<<32 + 1: 32, math.MaxInt: 32,
}

// outside: places and sizes that no list has.
var outside = []int{-1, -2, -1 << 40, math.MinInt, math.MinInt + 1, math.MaxInt, math.MaxInt - 1, 1 << 62}

// listOf: so many entries, no two alike, of several lengths.
func listOf(n int) [][]byte {
	list := make([][]byte, n)
	for i := range list {
		list[i] = bytes.Repeat(binary.BigEndian.AppendUint16(nil, uint16(i)), i%40)
		if i%40 == 0 && i > 0 {
			list[i] = []byte{byte(i)}
		}
	}
	return list
}

// another: an entry of a number, unlike those of listOf.
func another(number uint32) []byte {
	return binary.BigEndian.AppendUint32([]byte("another"), number)
}

// with: a list with another entry at a place.
func with(list [][]byte, at int, entry []byte) [][]byte {
	out := slices.Clone(list)
	out[at] = entry
	return out
}

// checkPair tells where a pair isn't of two unlike texts with one sum.
func checkPair(t *testing.T, what string, c short.Cut, p short.Pair, ok bool) {
	t.Helper()
	if !ok || bytes.Equal(p.One, p.Two) || sumOf(cuts[c], p.One) != sumOf(cuts[c], p.Two) {
		t.Errorf("%s, %d bytes: %v, %x and %x", what, c, ok, p.One, p.Two)
	}
}

// checkNone tells where there is a pair.
func checkNone(t *testing.T, what string, c short.Cut, p short.Pair, ok bool) {
	t.Helper()
	if ok || len(p.One) != 0 || len(p.Two) != 0 {
		t.Errorf("%s, %d bytes: %v, %x and %x", what, c, ok, p.One, p.Two)
	}
}

func TestLimit(t *testing.T) { // P7.2
	if short.MaxSize != maxSize {
		t.Error("MaxSize")
	}
}

func TestSum(t *testing.T) { // P7.1
	for c, count := range cuts {
		for _, text := range [][]byte{nil, {}, []byte("abc"), {0}, {1}, bytes.Repeat([]byte{7}, 64), make([]byte, 1000)} {
			if c.Sum(text) != sumOf(count, text) {
				t.Errorf("the Sum of %d bytes, cut to %d", len(text), c)
			}
		}
	}
	if short.Cut(2).Sum([]byte("abc")) != (api.ID{0xba, 0x78}) {
		t.Error("the chapter's example")
	}
}

func TestRoot(t *testing.T) { // P7.1
	for c, count := range cuts {
		for n := range 70 {
			if c.Root(listOf(n)...) != rootOf(count, listOf(n)) {
				t.Errorf("the Root of %d entries, cut to %d", n, c)
			}
		}
	}
	for _, n := range []int{127, 128, 129, 1000, 1024, 1025} {
		if short.Cut(3).Root(listOf(n)...) != rootOf(3, listOf(n)) {
			t.Errorf("the Root of %d entries", n)
		}
	}
	if c := short.Cut(4); c.Root(nil) != c.Root([]byte{}) || c.Root() == c.Root(nil) {
		t.Error("the Root of none, and of one without bytes")
	}
}

func TestRootByHand(t *testing.T) { // P7.1: the sums within are cut too
	c, one, two, three := short.Cut(2), []byte("one"), []byte("two"), []byte("three")
	ids := [3]api.ID{c.Sum([]byte("\x00one")), c.Sum([]byte("\x00two")), c.Sum([]byte("\x00three"))}
	left := c.Sum(slices.Concat([]byte{1}, ids[0][:], ids[1][:]))
	if c.Root(one, two) != left {
		t.Error("the Root of two")
	}
	if c.Root(one, two, three) != c.Sum(slices.Concat([]byte{1}, left[:], ids[2][:])) {
		t.Error("the Root of three")
	}
	if way, e := c.Way([][]byte{one, two, three}, 1); e != api.OK || !slices.Equal(way, []api.ID{ids[0], ids[2]}) {
		t.Errorf("the way of the second: %v", e)
	}
}

func TestWay(t *testing.T) { // P7.2
	for c, count := range cuts {
		for n := range 36 {
			for at := range n {
				if way, e := c.Way(listOf(n), at); e != api.OK || !slices.Equal(way, wayOf(count, listOf(n), at)) {
					t.Errorf("Way of %d of %d, cut to %d: %v", at, n, c, e)
				}
			}
		}
	}
	for _, at := range []int{0, 1, 511, 512, 1022, 1023, 1024} {
		if way, e := short.Cut(5).Way(listOf(1025), at); e != api.OK || !slices.Equal(way, wayOf(5, listOf(1025), at)) {
			t.Errorf("Way of %d of 1025: %v", at, e)
		}
	}
}

func TestWayRefuses(t *testing.T) { // P7.2
	for n := range 20 {
		for _, at := range append([]int{n, n + 1, 2 * n, -n - 1}, outside...) {
			if way, e := short.Cut(4).Way(listOf(n), at); (at >= n || at < 0) && (e != api.ErrRange || len(way) != 0) {
				t.Errorf("Way of %d of %d: %v", at, n, e)
			}
		}
	}
	if way, e := short.Cut(4).Way(nil, 0); e != api.ErrRange || len(way) != 0 {
		t.Errorf("Way of the first of none: %v", e)
	}
}

// checkLeads holds Leads against what is written out.
func checkLeads(t *testing.T, c short.Cut, entry []byte, at, size int, path []api.ID, root api.ID) {
	t.Helper()
	top, ok := leadsTo(cuts[c], entry, at, size, path)
	if got := c.Leads(entry, at, size, path, root); got != (ok && top == root) {
		t.Errorf("Leads from %d of %d with %d sums, cut to %d: %v", at, size, len(path), c, got)
	}
}

// otherPaths: a path with another sum, with two that have changed places, with one too few or too many.
func otherPaths(path []api.ID) [][]api.ID {
	out := [][]api.ID{
		append(slices.Clone(path), api.ID{}), append([]api.ID{{}}, path...), append(slices.Clone(path), path...),
		make([]api.ID, 40), make([]api.ID, 64), make([]api.ID, 65), make([]api.ID, 1000),
	}
	for i := range path {
		for _, j := range []int{0, 31} {
			other := slices.Clone(path)
			other[i][j] ^= 1
			out = append(out, other)
		}
		other := slices.Clone(path)
		other[i], other[0] = other[0], other[i]
		out = append(out, other, slices.Delete(slices.Clone(path), i, i+1), slices.Insert(slices.Clone(path), i, path[i]))
	}
	if len(path) > 0 {
		out = append(out, nil)
	}
	return out
}

func TestLeads(t *testing.T) { // P7.2
	for _, c := range []short.Cut{0, 1, 2, 8, 32, 99} {
		for _, n := range []int{1, 2, 3, 4, 5, 6, 7, 8, 9, 13, 16, 17, 31, 33} {
			list := listOf(n)
			root := rootOf(cuts[clamped(c)], list)
			for at := range list {
				path := wayOf(cuts[clamped(c)], list, at)
				if !c.Leads(list[at], at, n, path, root) {
					t.Errorf("Leads from %d of %d, cut to %d", at, n, c)
				}
				checkLeads(t, clamped(c), another(1), at, n, path, root)
				uncut := root
				uncut[31] ^= 1
				checkLeads(t, clamped(c), list[at], at, n, path, uncut)
				for _, other := range otherPaths(path) {
					checkLeads(t, clamped(c), list[at], at, n, other, root)
				}
				for place := range n {
					checkLeads(t, clamped(c), list[at], place, n, path, root)
				}
				for size := at + 1; size < n+9; size++ {
					checkLeads(t, clamped(c), list[at], at, size, path, root)
				}
			}
		}
	}
}

// clamped: the cut from 1 to 32 that a cut is as.
func clamped(c short.Cut) short.Cut { return min(max(c, 1), 32) }

// drawn: so many sums.
func drawn(r *rand.Rand, n int) []api.ID {
	path := make([]api.ID, n)
	for i := range path {
		r.Read(path[i][:])
	}
	return path
}

func TestLeadsInGreatLists(t *testing.T) { // P7.2: by any sums, to the root to which they lead
	r := rand.New(rand.NewSource(7))
	for _, size := range []int{maxSize, maxSize - 1, maxSize - 2, maxSize/2 + 1, maxSize / 2, 1<<32 + 1, 1 << 32, 1<<31 - 1, 0x5555555555, 123456789012, 1000} {
		for _, at := range []int{0, 1, size / 3, size / 2, size - 2, size - 1, r.Intn(size), r.Intn(size)} {
			n, ok := 0, false
			for n = 0; !ok; n++ {
				_, ok = leadsTo(32, nil, at, size, make([]api.ID, n))
			}
			path := drawn(r, n-1)
			for _, c := range []short.Cut{1, 3, 32} {
				root, _ := leadsTo(int(c), another(2), at, size, path)
				if !c.Leads(another(2), at, size, path, root) {
					t.Errorf("Leads from %d of %d, cut to %d", at, size, c)
				}
				checkLeads(t, c, another(3), at, size, path, root)
				for _, other := range otherPaths(path) {
					checkLeads(t, c, another(2), at, size, other, root)
				}
			}
		}
	}
}

func TestLeadsFromNoPlace(t *testing.T) { // P7.2
	list := listOf(9)
	root := rootOf(2, list)
	for at := range list {
		for _, p := range [][]api.ID{wayOf(2, list, at), nil, make([]api.ID, 40), make([]api.ID, 41), make([]api.ID, 64), make([]api.ID, 65)} {
			for _, place := range [][2]int{
				{-1, 9}, {-9, 9}, {9, 9}, {10, 9}, {at, at}, {at, 0}, {at, -9}, {0, 0}, {-1, 0}, {-1, -1}, {-2, -1}, {maxSize, maxSize},
				{at, maxSize + 1}, {maxSize, maxSize + 1}, {at, math.MaxInt}, {at, math.MinInt}, {math.MaxInt, math.MaxInt},
				{math.MaxInt - 1, math.MaxInt}, {math.MinInt, math.MaxInt}, {math.MinInt, math.MinInt}, {math.MinInt, 9}, {math.MaxInt, 9},
			} {
				if short.Cut(2).Leads(list[at], place[0], place[1], p, root) {
					t.Errorf("Leads from %d of %d with %d sums", place[0], place[1], len(p))
				}
			}
		}
	}
	if short.Cut(1).Leads(nil, 0, 0, nil, rootOf(1, nil)) {
		t.Error("Leads from the first of none")
	}
}

func TestLeadsBehindTheLastOne(t *testing.T) { // P7.2: to whatever roots a path comes from another place
	for size := range 10 {
		for n := 1; n < 12; n++ {
			for at := range n {
				path := wayOf(2, listOf(n), at)
				for _, place := range []int{size, size + 1, size + 2, 2*size + 1} {
					if short.Cut(2).Leads(listOf(n)[at], place, size, path, rootOf(2, listOf(n))) {
						t.Errorf("Leads from %d of %d by the way of %d of %d", place, size, at, n)
					}
				}
			}
		}
	}
}

func TestLeadsInMoreThanMaxSize(t *testing.T) { // P7.2: whatever a path in so many leads to
	for _, size := range []int{maxSize + 1, 1<<41 - 1, 1 << 41} {
		for n := range 43 {
			if root, ok := leadsTo(2, nil, 0, size, make([]api.ID, n)); ok && short.Cut(2).Leads(nil, 0, size, make([]api.ID, n), root) {
				t.Errorf("Leads in %d", size)
			}
		}
	}
}

// sameRoot: a list with another entry at a place, and the same root; and whether the entries have one sum.
func sameRoot(count int, list [][]byte, at int, from uint32) ([][]byte, bool) {
	root, way := rootOf(count, list), wayOf(count, list, at)
	for number := from; ; number++ {
		entry := another(number)
		if top, _ := leadsTo(count, entry, at, len(list), way); top == root {
			return with(list, at, entry), rootOf(count, [][]byte{entry}) == rootOf(count, list[at:at+1])
		}
	}
}

func TestLists(t *testing.T) { // P7.3: what parts lies in an entry, or further up
	seen := map[bool]int{}
	for n := 1; n <= 20; n++ {
		list := listOf(n)
		for at := range n {
			for from := range uint32(6) {
				other, low := sameRoot(1, list, at, from*10000)
				seen[low]++
				for _, c := range []short.Cut{1, 0, -5} {
					p, ok := c.Lists(list, other)
					checkPair(t, "Lists", clamped(c), p, ok)
					p, ok = c.Lists(other, list)
					checkPair(t, "Lists", clamped(c), p, ok)
				}
				p, ok := short.Cut(20).Lists(list, other)
				checkNone(t, "Lists of two roots", 20, p, ok)
			}
		}
	}
	if seen[true] < 10 || seen[false] < 10 {
		t.Errorf("lists that part with one sum of the entries, and without: %v", seen)
	}
}

func TestListsOfTwoBytes(t *testing.T) { // P7.3
	for _, n := range []int{1, 3, 6, 11} {
		list := listOf(n)
		for _, at := range []int{0, n / 2, n - 1} {
			other, _ := sameRoot(2, list, at, 0)
			p, ok := short.Cut(2).Lists(list, other)
			checkPair(t, "Lists", 2, p, ok)
			p, ok = short.Cut(3).Lists(list, other)
			if rootOf(3, list) != rootOf(3, other) {
				checkNone(t, "Lists of two roots", 3, p, ok)
			}
		}
	}
}

func TestListsThatPartAtSeveralPlaces(t *testing.T) { // P7.3
	r := rand.New(rand.NewSource(5))
	found := 0
	for range 6000 {
		list := listOf(2 + r.Intn(20))
		other := slices.Clone(list)
		for range 1 + r.Intn(len(list)) {
			other[r.Intn(len(list))] = another(r.Uint32())
		}
		p, ok := short.Cut(1).Lists(list, other)
		if rootOf(1, list) != rootOf(1, other) {
			checkNone(t, "Lists of two roots", 1, p, ok)
			continue
		}
		found++
		checkPair(t, "Lists that part", 1, p, ok)
	}
	if found < 5 {
		t.Errorf("%d lists have one root", found)
	}
}

func TestListsOfOneRootOnly(t *testing.T) { // P7.3: roots that differ, counts that differ, lists that don't
	for n := range 12 {
		list, same := listOf(n), listOf(n)
		for _, c := range []short.Cut{0, 1, 2, 32, 40} {
			p, ok := c.Lists(list, same)
			checkNone(t, "Lists of the same", c, p, ok)
			p, ok = c.Lists(list, list)
			checkNone(t, "Lists of one", c, p, ok)
			if n > 0 {
				p, ok = c.Lists(list, list[1:])
				checkNone(t, "Lists with one entry less", c, p, ok)
				p, ok = c.Lists(list[:n-1], list)
				checkNone(t, "Lists with one entry more", c, p, ok)
				p, ok = short.Cut(20).Lists(list, with(list, n-1, another(1)))
				checkNone(t, "Lists of two roots", 20, p, ok)
			}
		}
	}
	p, ok := short.Cut(1).Lists(nil, [][]byte{})
	checkNone(t, "Lists of none", 1, p, ok)
	p, ok = short.Cut(1).Lists([][]byte{nil, {}, {1}}, [][]byte{{}, nil, {1}})
	checkNone(t, "Lists of entries without bytes", 1, p, ok)
}

func TestListsOfOtherCountsWithOneRoot(t *testing.T) { // P7.3
	list := listOf(4)
	for _, n := range []int{1, 2, 3, 5, 6, 7, 8} {
		other := listOf(n)
		for number := uint32(0); rootOf(1, other) != rootOf(1, list); number++ { // all are others: one alone mayn't come to each root
			for i := range other {
				other[i] = another(number<<8 + uint32(i))
			}
		}
		p, ok := short.Cut(1).Lists(list, other)
		checkNone(t, "Lists of 4 and others", 1, p, ok)
		p, ok = short.Cut(1).Lists(other, list)
		checkNone(t, "Lists of others and 4", 1, p, ok)
	}
	p, ok := short.Cut(1).Lists(nil, list[:1])
	checkNone(t, "Lists of none and one", 1, p, ok)
}

func TestEntryOfAnotherEntry(t *testing.T) { // P7.4: by the way of the one that stands there
	for n := 1; n <= 20; n++ {
		list := listOf(n)
		for at := range n {
			for from := range uint32(4) {
				other, _ := sameRoot(1, list, at, from*10000)
				p, ok := short.Cut(1).Entry(list, other[at], at, wayOf(1, list, at))
				checkPair(t, "Entry", 1, p, ok)
				p, ok = short.Cut(0).Entry(other, list[at], at, wayOf(1, list, at))
				checkPair(t, "Entry", 1, p, ok)
				p, ok = short.Cut(20).Entry(list, other[at], at, wayOf(20, list, at))
				checkNone(t, "Entry that isn't there", 20, p, ok)
			}
		}
	}
}

// otherWay: a path that leads from an entry to a list's root, with another sum at a step than its way has, in the bytes from one on.
func otherWay(count int, list [][]byte, entry []byte, at, step, from int) []api.ID {
	root, path := rootOf(count, list), wayOf(count, list, at)
	was := path[step]
	for number := uint32(1); ; number++ {
		path[step] = was
		for i := range 3 {
			path[step][from+i] ^= byte(number >> (8 * i))
		}
		if top, _ := leadsTo(count, entry, at, len(list), path); top == root {
			return path
		}
	}
}

func TestEntryByAnotherWay(t *testing.T) { // P7.4: with another sum on any step, in any of its bytes
	for _, n := range []int{2, 3, 5, 7, 8, 13, 20} {
		list := listOf(n)
		for at := range n {
			for step := range wayOf(1, list, at) {
				for _, from := range []int{0, 1, 29} {
					path := otherWay(1, list, list[at], at, step, from)
					p, ok := short.Cut(1).Entry(list, list[at], at, path)
					checkPair(t, "Entry by another way", 1, p, ok)
					path = otherWay(1, list, another(9), at, step, from)
					p, ok = short.Cut(1).Entry(list, another(9), at, path)
					checkPair(t, "another Entry by another way", 1, p, ok)
				}
			}
		}
	}
}

func TestEntryByDrawnWays(t *testing.T) { // P7.4: where all is another
	r := rand.New(rand.NewSource(6))
	found := 0
	for range 6000 {
		n := 1 + r.Intn(20)
		list, at := listOf(n), r.Intn(n)
		entry, path := another(r.Uint32()), drawn(r, len(wayOf(1, list, at)))
		p, ok := short.Cut(1).Entry(list, entry, at, path)
		if top, _ := leadsTo(1, entry, at, n, path); top != rootOf(1, list) {
			checkNone(t, "Entry that doesn't lead", 1, p, ok)
			continue
		}
		found++
		checkPair(t, "Entry by a drawn way", 1, p, ok)
	}
	if found < 5 {
		t.Errorf("%d drawn ways lead to the root", found)
	}
}

func TestEntryThatStandsThere(t *testing.T) { // P7.4: by its own way
	for n := 1; n <= 20; n++ {
		list := listOf(n)
		for at := range n {
			for _, c := range []short.Cut{1, 2, 32} {
				path := wayOf(int(c), list, at)
				p, ok := c.Entry(list, slices.Clone(list[at]), at, path)
				checkNone(t, "Entry that stands there", c, p, ok)
				for _, other := range otherPaths(path) {
					top, whole := leadsTo(int(c), list[at], at, n, other)
					leads := whole && top == rootOf(int(c), list)
					if p, ok := c.Entry(list, list[at], at, other); leads && !slices.Equal(other, path) {
						checkPair(t, "Entry by another path", c, p, ok)
					} else {
						checkNone(t, "Entry by a path that doesn't lead", c, p, ok)
					}
				}
			}
		}
	}
	p, ok := short.Cut(1).Entry([][]byte{{}}, nil, 0, nil)
	checkNone(t, "Entry without bytes", 1, p, ok)
}

func TestEntryAtNoPlace(t *testing.T) { // P7.4
	for n := range 9 {
		list := listOf(n)
		for _, at := range append([]int{n, n + 1, -n - 1}, outside...) {
			for _, path := range [][]api.ID{nil, make([]api.ID, 3), make([]api.ID, 70)} {
				p, ok := short.Cut(1).Entry(list, nil, at, path)
				checkNone(t, "Entry at no place", 1, p, ok)
			}
		}
	}
}

func TestNothingIsChangedOrShared(t *testing.T) { // P2
	room := make([][]byte, 12)
	for i := range room {
		room[i] = append(make([]byte, 0, 64), byte(i), 7)
	}
	list := room[:9]
	other, _ := sameRoot(1, list, 4, 0)
	path := append(wayOf(1, list, 4), api.ID{5})
	was, wasOther, wasPath := copied(room), copied(other), slices.Clone(path)
	way := path[:len(path)-1]
	c := short.Cut(1)
	for range 2 {
		c.Sum(list[0])
		c.Root(list...)
		c.Leads(other[4], 4, 9, way, c.Root(list...))
		got, _ := c.Way(list, 4)
		if !slices.Equal(got, way) {
			t.Error("two Ways share memory")
		}
		clear(got[:cap(got)])
		one, _ := c.Lists(list, other)
		two, _ := c.Entry(list, other[4], 4, way)
		for _, p := range []short.Pair{one, two} {
			kept := bytes.Clone(p.Two)
			clear(p.One[:cap(p.One)])
			if !bytes.Equal(p.Two, kept) {
				t.Error("the texts of a pair share memory")
			}
			clear(p.Two[:cap(p.Two)])
		}
		if !slices.EqualFunc(room, was, wholeEqual) || !slices.EqualFunc(other, wasOther, wholeEqual) || !slices.Equal(path, wasPath) {
			t.Fatal("what was handed in is changed, or an answer shares memory with it")
		}
	}
}

// copied: entries with their spare room.
func copied(list [][]byte) [][]byte {
	out := make([][]byte, len(list))
	for i, entry := range list {
		out[i] = append(make([]byte, 0, cap(entry)), entry[:cap(entry)]...)[:len(entry)]
	}
	return out
}

func wholeEqual(a, b []byte) bool { return len(a) == len(b) && bytes.Equal(a[:cap(a)], b[:cap(b)]) }
