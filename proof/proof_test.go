package proof_test

import (
	"crypto/sha256"
	"math"
	"math/rand"
	"slices"
	"testing"

	"scrivener/api"
	"scrivener/proof"
)

// maxSize is layer 5's MaxSize.
const maxSize = 1 << 40

// leavesOf: so many leaves, no two alike.
func leavesOf(n int) []api.ID {
	leaves := make([]api.ID, n)
	for i := range leaves {
		leaves[i] = sha256.Sum256([]byte{byte(i), byte(i >> 8)})
	}
	return leaves
}

func nodeOf(left, right api.ID) api.ID {
	return sha256.Sum256(append(append([]byte{1}, left[:]...), right[:]...))
}

// cutOf: the greatest power of two below n.
func cutOf(n int) int {
	k := 1
	for 2*k < n {
		k *= 2
	}
	return k
}

// rootOf: the root of one leaf or more, written out.
func rootOf(leaves []api.ID) api.ID {
	if len(leaves) == 1 {
		return leaves[0]
	}
	k := cutOf(len(leaves))
	return nodeOf(rootOf(leaves[:k]), rootOf(leaves[k:]))
}

// wayOf: the way of a leaf, written out.
func wayOf(leaves []api.ID, at int) []api.ID {
	if len(leaves) == 1 {
		return nil
	}
	k := cutOf(len(leaves))
	if at < k {
		return append(wayOf(leaves[:k], at), rootOf(leaves[k:]))
	}
	return append(wayOf(leaves[k:], at-k), rootOf(leaves[:k]))
}

// linkOf: the link of a size, written out.
func linkOf(leaves []api.ID, size int, whole bool) []api.ID {
	if size == len(leaves) {
		if whole {
			return nil
		}
		return []api.ID{rootOf(leaves)}
	}
	k := cutOf(len(leaves))
	if size <= k {
		return append(linkOf(leaves[:k], size, whole), rootOf(leaves[k:]))
	}
	return append(linkOf(leaves[k:], size-k, false), rootOf(leaves[:k]))
}

// leadsTo: to what a path leads from a leaf, written out; false: it has too few sums, or too many.
func leadsTo(leaf api.ID, at, size int, path []api.ID) (api.ID, bool) {
	if size == 1 {
		return leaf, len(path) == 0
	}
	if len(path) == 0 {
		return api.ID{}, false
	}
	rest, last := path[:len(path)-1], path[len(path)-1]
	if k := cutOf(size); at >= k {
		right, ok := leadsTo(leaf, at-k, size-k, rest)
		return nodeOf(last, right), ok
	} else {
		left, ok := leadsTo(leaf, at, k, rest)
		return nodeOf(left, last), ok
	}
}

// linksTo: to what a path leads for the elder list and for this one, written out; false: it has too few sums, or too many.
func linksTo(first, second int, whole bool, one api.ID, path []api.ID) (elder, now api.ID, ok bool) {
	if first == second && whole {
		return one, one, len(path) == 0
	}
	if len(path) == 0 {
		return elder, now, false
	}
	rest, last := path[:len(path)-1], path[len(path)-1]
	if first == second {
		return last, last, len(rest) == 0
	}
	k := cutOf(second)
	if first <= k {
		elder, now, ok = linksTo(first, k, whole, one, rest)
		return elder, nodeOf(now, last), ok
	}
	elder, now, ok = linksTo(first-k, second-k, false, one, rest)
	return nodeOf(last, elder), nodeOf(last, now), ok
}

// lengthOf: how many sums there must be: the first count of them for which ok.
func lengthOf(ok func(path []api.ID) bool) int {
	n := 0
	for !ok(make([]api.ID, n)) {
		n++
	}
	return n
}

// sizes: those of lists that are gone through leaf by leaf.
func sizes() []int {
	out := []int{63, 64, 65, 100, 127, 128, 129}
	for n := range 40 {
		out = append(out, n+1)
	}
	return out
}

// outside: places that no list has.
var outside = []int{-1, -2, -1 << 40, math.MinInt, math.MinInt + 1, math.MaxInt, math.MaxInt - 1, 1 << 62}

// otherPaths: a path with another sum, with two that have changed places, with one too few or too many.
func otherPaths(path []api.ID) [][]api.ID {
	out := [][]api.ID{
		append(slices.Clone(path), api.ID{}),
		append([]api.ID{{}}, path...),
		append(slices.Clone(path), path...),
		make([]api.ID, 64),
		make([]api.ID, 300),
	}
	for i := range path {
		other := slices.Clone(path)
		other[i][i%32] ^= 1 << (i % 8)
		out = append(out, other, slices.Delete(slices.Clone(path), i, i+1), slices.Insert(slices.Clone(path), i, path[i]))
		other = slices.Clone(path)
		other[i], other[0] = other[0], other[i]
		out = append(out, other)
	}
	if len(path) > 0 {
		out = append(out, nil, path[:1])
	}
	return out
}

func errnoOf(ok bool) api.Errno {
	if ok {
		return api.OK
	}
	return api.ErrProof
}

// checkInclusion holds CheckInclusion against what is written out.
func checkInclusion(t *testing.T, leaf api.ID, at, size int, path []api.ID, root api.ID) {
	t.Helper()
	top, ok := leadsTo(leaf, at, size, path)
	if e, want := proof.CheckInclusion(leaf, at, size, path, root), errnoOf(ok && top == root); e != want {
		t.Errorf("CheckInclusion of %d of %d with %d sums: %v, not %v", at, size, len(path), e, want)
	}
}

// checkConsistency holds CheckConsistency against what is written out.
func checkConsistency(t *testing.T, first, second int, one, two api.ID, path []api.ID) {
	t.Helper()
	elder, now, ok := linksTo(first, second, true, one, path)
	want := errnoOf(ok && elder == one && now == two)
	if e := proof.CheckConsistency(first, second, one, two, path); e != want {
		t.Errorf("CheckConsistency of %d of %d with %d sums: %v, not %v", first, second, len(path), e, want)
	}
}

func TestInclusion(t *testing.T) { // P6.1
	for _, n := range sizes() {
		leaves := leavesOf(n)
		for at := range n {
			if path, e := proof.Inclusion(leaves, at); e != api.OK || !slices.Equal(path, wayOf(leaves, at)) {
				t.Errorf("Inclusion of %d of %d: %v, %d sums", at, n, e, len(path))
			}
		}
	}
	leaves := leavesOf(1025)
	for _, at := range []int{0, 1, 511, 512, 1022, 1023, 1024} {
		if path, e := proof.Inclusion(leaves, at); e != api.OK || !slices.Equal(path, wayOf(leaves, at)) {
			t.Errorf("Inclusion of %d of 1025: %v", at, e)
		}
	}
}

func TestInclusionRefuses(t *testing.T) { // P6.1
	for n := range 20 {
		leaves := leavesOf(n)
		for _, at := range append([]int{n, n + 1, -n - 1, -n}, outside...) {
			if path, e := proof.Inclusion(leaves, at); e != api.ErrRange || len(path) != 0 {
				t.Errorf("Inclusion of %d of %d: %v", at, n, e)
			}
		}
	}
	if path, e := proof.Inclusion(nil, 0); e != api.ErrRange || len(path) != 0 {
		t.Errorf("Inclusion of the first of no leaves: %v", e)
	}
}

func TestConsistency(t *testing.T) { // P6.2
	for _, n := range sizes() {
		leaves := leavesOf(n)
		for size := 1; size <= n; size++ {
			if path, e := proof.Consistency(leaves, size); e != api.OK || !slices.Equal(path, linkOf(leaves, size, true)) {
				t.Errorf("Consistency of %d of %d: %v, %d sums", size, n, e, len(path))
			}
		}
	}
	leaves := leavesOf(1025)
	for _, size := range []int{1, 2, 511, 512, 513, 1023, 1024, 1025} {
		if path, e := proof.Consistency(leaves, size); e != api.OK || !slices.Equal(path, linkOf(leaves, size, true)) {
			t.Errorf("Consistency of %d of 1025: %v", size, e)
		}
	}
}

func TestConsistencyRefuses(t *testing.T) { // P6.2
	for n := range 20 {
		leaves := leavesOf(n)
		for _, size := range append([]int{0, n + 1, n + 2, 2*n + 1, -n}, outside...) {
			if path, e := proof.Consistency(leaves, size); e != api.ErrRange || len(path) != 0 {
				t.Errorf("Consistency of %d of %d: %v", size, n, e)
			}
		}
	}
	if path, e := proof.Consistency(nil, 0); e != api.ErrRange || len(path) != 0 {
		t.Errorf("Consistency of none of no leaves: %v", e)
	}
}

func TestExamples(t *testing.T) { // the chapter's, of three leaves
	l := []api.ID{{1}, {2}, {3}}
	if path, e := proof.Inclusion(l, 1); e != api.OK || !slices.Equal(path, []api.ID{l[0], l[2]}) {
		t.Errorf("the way of the second: %v", e)
	}
	if path, e := proof.Consistency(l, 2); e != api.OK || !slices.Equal(path, []api.ID{l[2]}) {
		t.Errorf("the link of two: %v", e)
	}
	if path, e := proof.Consistency(l, 3); e != api.OK || len(path) != 0 {
		t.Errorf("the link of all: %v", e)
	}
	if path, e := proof.Inclusion(l[:1], 0); e != api.OK || len(path) != 0 {
		t.Errorf("the way of the only one: %v", e)
	}
}

func TestCheckInclusion(t *testing.T) { // P6.3
	for _, n := range sizes()[6:] {
		leaves := leavesOf(n)
		root := rootOf(leaves)
		for at, leaf := range leaves {
			path := wayOf(leaves, at)
			if e := proof.CheckInclusion(leaf, at, n, path, root); e != api.OK {
				t.Errorf("CheckInclusion of %d of %d: %v", at, n, e)
			}
			checkInclusion(t, api.ID{99}, at, n, path, root)
			checkInclusion(t, leaf, at, n, path, api.ID{})
			checkInclusion(t, root, at, n, nil, root)
			for _, other := range otherPaths(path) {
				checkInclusion(t, leaf, at, n, other, root)
			}
			for place := range n {
				checkInclusion(t, leaf, place, n, path, root)
			}
			for size := at + 1; size < n+10; size++ {
				checkInclusion(t, leaf, at, size, path, root)
			}
		}
	}
}

// drawn: so many sums, and one more.
func drawn(r *rand.Rand, n int) ([]api.ID, api.ID) {
	path, one := make([]api.ID, n), api.ID{}
	for i := range path {
		r.Read(path[i][:])
	}
	r.Read(one[:])
	return path, one
}

// greatSizes: some that no list of leaves here has.
var greatSizes = []int{
	maxSize, maxSize - 1, maxSize - 2, maxSize/2 + 1, maxSize / 2, maxSize/2 - 1, 1<<32 + 1, 1 << 32, 1<<32 - 1,
	1<<31 + 1, 1 << 31, 1<<31 - 1, 0x5555555555, 0xaaaaaaaaab, 123456789012, 65537, 1000,
}

func TestCheckInclusionInGreatLists(t *testing.T) { // P6.3: of any sums, whose root is the one to which they lead
	r := rand.New(rand.NewSource(8))
	for _, size := range greatSizes {
		for _, at := range []int{0, 1, size / 3, size / 2, size/2 + 1, size - 2, size - 1, r.Intn(size), r.Intn(size)} {
			n := lengthOf(func(path []api.ID) bool { _, ok := leadsTo(api.ID{}, at, size, path); return ok })
			path, leaf := drawn(r, n)
			root, _ := leadsTo(leaf, at, size, path)
			if e := proof.CheckInclusion(leaf, at, size, path, root); e != api.OK {
				t.Errorf("CheckInclusion of %d of %d: %v", at, size, e)
			}
			checkInclusion(t, api.ID{99}, at, size, path, root)
			checkInclusion(t, leaf, at, size, path, leaf)
			for _, other := range otherPaths(path) {
				checkInclusion(t, leaf, at, size, other, root)
			}
			for _, place := range []int{0, at / 2, at ^ 1, size - 1 - at} {
				if place < size {
					checkInclusion(t, leaf, place, size, path, root)
				}
			}
		}
	}
}

func TestCheckInclusionRefuses(t *testing.T) { // P6.3, and the order of its errors
	leaves := leavesOf(9)
	root := rootOf(leaves)
	for at := range 9 {
		path := wayOf(leaves, at)
		for _, p := range [][]api.ID{path, nil, make([]api.ID, 41), make([]api.ID, 100)} {
			for _, c := range [][2]int{
				{-1, 9}, {-1, 0}, {-1, -1}, {0, 0}, {0, -1}, {0, -9}, {9, 9}, {10, 9}, {at, at}, {at + 1, at}, {at, -at}, {-at - 1, 9},
				{at, maxSize + 1}, {at, maxSize + 9}, {at, 1 << 41}, {at, math.MaxInt}, {at, math.MinInt}, {maxSize, maxSize},
				{maxSize, maxSize + 1}, {math.MinInt, 9}, {math.MaxInt, 9}, {math.MaxInt, math.MaxInt}, {math.MaxInt - 1, math.MaxInt},
				{math.MinInt, math.MinInt}, {math.MinInt, math.MinInt + 1}, {math.MinInt, math.MaxInt}, {math.MaxInt, math.MinInt},
			} {
				if e := proof.CheckInclusion(leaves[at], c[0], c[1], p, root); e != api.ErrRange {
					t.Errorf("CheckInclusion of %d of %d: %v", c[0], c[1], e)
				}
			}
		}
	}
}

func TestInclusionIsBelieved(t *testing.T) { // P6.1, P6.3: of that leaf, at that place, in that list
	for _, n := range sizes() {
		leaves := leavesOf(n)
		root := rootOf(leaves)
		for at, leaf := range leaves {
			path, _ := proof.Inclusion(leaves, at)
			if e := proof.CheckInclusion(leaf, at, n, path, root); e != api.OK {
				t.Errorf("Inclusion of %d of %d isn't believed: %v", at, n, e)
			}
			if proof.CheckInclusion(leaves[(at+1)%n], at, n, path, root) != errnoOf(n == 1) {
				t.Errorf("Inclusion of %d of %d is believed of another leaf", at, n)
			}
			if n > 1 && proof.CheckInclusion(leaf, (at+1)%n, n, path, root) != api.ErrProof {
				t.Errorf("Inclusion of %d of %d is believed of another place", at, n)
			}
		}
	}
}

func TestCheckConsistency(t *testing.T) { // P6.4
	for _, n := range sizes()[6:] {
		leaves := leavesOf(n)
		two := rootOf(leaves)
		for size := 1; size <= n; size++ {
			one, path := rootOf(leaves[:size]), linkOf(leaves, size, true)
			if e := proof.CheckConsistency(size, n, one, two, path); e != api.OK {
				t.Errorf("CheckConsistency of %d of %d: %v", size, n, e)
			}
			checkConsistency(t, size, n, api.ID{99}, two, path)
			checkConsistency(t, size, n, one, api.ID{98}, path)
			checkConsistency(t, size, n, two, one, path)
			checkConsistency(t, size, n, one, one, path)
			checkConsistency(t, size, n, two, two, path)
			checkConsistency(t, size, n, api.ID{}, api.ID{}, path)
			for _, other := range otherPaths(path) {
				checkConsistency(t, size, n, one, two, other)
			}
			for first := 1; first <= n; first++ {
				checkConsistency(t, first, n, one, two, path)
			}
			for second := size; second < n+10; second++ {
				checkConsistency(t, size, second, one, two, path)
			}
		}
	}
}

func TestCheckConsistencyOfOneList(t *testing.T) { // P6.4: where the link has nothing, both roots are one
	for _, size := range append([]int{1, 2, 3, 5, 8, 9}, greatSizes...) {
		one, two := api.ID{1}, api.ID{2}
		if e := proof.CheckConsistency(size, size, one, one, nil); e != api.OK {
			t.Errorf("CheckConsistency of %d and itself: %v", size, e)
		}
		if e := proof.CheckConsistency(size, size, one, two, []api.ID{}); e != api.ErrProof {
			t.Errorf("CheckConsistency of %d and itself with two roots: %v", size, e)
		}
		if e := proof.CheckConsistency(size, size, one, one, []api.ID{one}); e != api.ErrProof {
			t.Errorf("CheckConsistency of %d and itself with a sum: %v", size, e)
		}
	}
}

func TestCheckConsistencyWithOneWrongRoot(t *testing.T) { // P6.4: each of both roots counts by itself
	leaves, others := leavesOf(33), leavesOf(33)
	for size := 1; size <= 33; size++ {
		others[size-1] = api.ID{77}
		for n := size + 1; n <= 33; n++ {
			path, other := linkOf(leaves[:n], size, true), linkOf(others[:n], size, true)
			one, two := rootOf(leaves[:size]), rootOf(leaves[:n])
			elder, now := rootOf(others[:size]), rootOf(others[:n])
			for _, c := range []struct {
				one, two api.ID
				path     []api.ID
				want     api.Errno
			}{
				{one, two, path, api.OK}, {elder, two, path, api.ErrProof}, {one, now, path, api.ErrProof},
				{elder, now, other, api.OK}, {one, now, other, api.ErrProof}, {elder, two, other, api.ErrProof},
			} {
				if e := proof.CheckConsistency(size, n, c.one, c.two, c.path); e != c.want {
					t.Errorf("CheckConsistency of %d of %d: %v, not %v", size, n, e, c.want)
				}
			}
		}
		others[size-1] = leaves[size-1]
	}
}

func TestCheckConsistencyInGreatLists(t *testing.T) { // P6.4: of any sums, whose roots are those to which they lead
	r := rand.New(rand.NewSource(9))
	for _, second := range greatSizes {
		for _, first := range []int{1, 2, 3, second / 3, second / 2, second/2 + 1, second - 1, second, 512, 1 + r.Intn(second), 1 + r.Intn(second)} {
			n := lengthOf(func(path []api.ID) bool { _, _, ok := linksTo(first, second, true, api.ID{}, path); return ok })
			path, one := drawn(r, n)
			elder, _, _ := linksTo(first, second, true, one, path)
			_, two, _ := linksTo(first, second, true, elder, path)
			if e := proof.CheckConsistency(first, second, elder, two, path); e != api.OK {
				t.Errorf("CheckConsistency of %d of %d: %v", first, second, e)
			}
			checkConsistency(t, first, second, api.ID{99}, two, path)
			checkConsistency(t, first, second, elder, api.ID{98}, path)
			checkConsistency(t, first, second, two, elder, path)
			for _, other := range otherPaths(path) {
				checkConsistency(t, first, second, elder, two, other)
			}
		}
	}
}

func TestCheckConsistencyRefuses(t *testing.T) { // P6.4, and the order of its errors
	leaves := leavesOf(9)
	two := rootOf(leaves)
	for size := 1; size <= 9; size++ {
		one, path := rootOf(leaves[:size]), linkOf(leaves, size, true)
		for _, p := range [][]api.ID{path, nil, make([]api.ID, 41), make([]api.ID, 100)} {
			for _, c := range [][2]int{
				{0, 9}, {0, 0}, {-1, 9}, {-1, -1}, {0, -1}, {1, 0}, {1, -1}, {10, 9}, {size, size - 1}, {-size, 9}, {-size, size}, {size, -size},
				{size, maxSize + 1}, {size, 1 << 41}, {size, math.MaxInt}, {maxSize + 1, maxSize + 1}, {maxSize, maxSize + 1}, {maxSize + 1, maxSize},
				{0, maxSize + 1}, {math.MinInt, 9}, {math.MinInt, math.MinInt}, {math.MaxInt, math.MaxInt}, {1, math.MinInt},
				{math.MaxInt, math.MinInt}, {math.MinInt, math.MaxInt}, {math.MaxInt, 9},
			} {
				if e := proof.CheckConsistency(c[0], c[1], one, two, p); e != api.ErrRange {
					t.Errorf("CheckConsistency of %d of %d: %v", c[0], c[1], e)
				}
			}
		}
	}
}

func TestConsistencyIsBelieved(t *testing.T) { // P6.2, P6.4: of lists of which one begins with the other
	for _, n := range sizes() {
		leaves := leavesOf(n)
		for size := 1; size <= n; size++ {
			path, _ := proof.Consistency(leaves, size)
			if e := proof.CheckConsistency(size, n, rootOf(leaves[:size]), rootOf(leaves), path); e != api.OK {
				t.Errorf("Consistency of %d of %d isn't believed: %v", size, n, e)
			}
			parted := slices.Clone(leaves[:size])
			parted[size/2] = api.ID{77}
			if e := proof.CheckConsistency(size, n, rootOf(parted), rootOf(leaves), path); e != api.ErrProof {
				t.Errorf("Consistency of %d of %d is believed of a list that parts: %v", size, n, e)
			}
		}
	}
}

func TestNothingIsChangedOrShared(t *testing.T) { // P2
	for _, n := range []int{1, 2, 3, 7, 8, 13} {
		room := leavesOf(n + 5)
		was := slices.Clone(room)
		leaves := room[:n]
		root := rootOf(leaves)
		for at := range n {
			way, same := mustWay(t, leaves, at), mustWay(t, leaves, at)
			link, alike := mustLink(t, leaves, at+1), mustLink(t, leaves, at+1)
			paths := slices.Concat(way, []api.ID{{9}}, link, []api.ID{{8}})
			before := slices.Clone(paths)
			proof.CheckInclusion(leaves[at], at, n, paths[:len(way)], root)
			proof.CheckConsistency(at+1, n, rootOf(leaves[:at+1]), root, paths[len(way)+1:len(paths)-1])
			if !slices.Equal(paths, before) {
				t.Errorf("a path of %d of %d that was handed in is changed", at, n)
			}
			_, _ = append(way, api.ID{9}), append(link, api.ID{9})
			clear(way[:cap(way)])
			clear(link[:cap(link)])
			if !slices.Equal(same, wayOf(was[:n], at)) || !slices.Equal(alike, linkOf(was[:n], at+1, true)) {
				t.Errorf("two answers of %d of %d share memory", at, n)
			}
			if !slices.Equal(room, was) {
				t.Fatalf("the leaves that were handed in are changed, or an answer shares memory with them")
			}
		}
	}
}

func mustWay(t *testing.T, leaves []api.ID, at int) []api.ID {
	t.Helper()
	path, e := proof.Inclusion(leaves, at)
	if e != api.OK {
		t.Fatalf("Inclusion of %d of %d: %v", at, len(leaves), e)
	}
	return path
}

func mustLink(t *testing.T, leaves []api.ID, size int) []api.ID {
	t.Helper()
	path, e := proof.Consistency(leaves, size)
	if e != api.OK {
		t.Fatalf("Consistency of %d of %d: %v", size, len(leaves), e)
	}
	return path
}
