package tree_test

import (
	"crypto/sha256"
	"encoding/hex"
	"math"
	"math/rand"
	"slices"
	"testing"

	"scrivener/api"
	"scrivener/tree"
)

// leavesOf: so many leaves, no two alike.
func leavesOf(n int) []api.ID {
	leaves := make([]api.ID, n)
	for i := range leaves {
		leaves[i] = sha256.Sum256([]byte{byte(i), byte(i >> 8), byte(i >> 16)})
	}
	return leaves
}

func nodeOf(left, right api.ID) api.ID {
	return sha256.Sum256(append(append([]byte{1}, left[:]...), right[:]...))
}

// rootOf: the root of leaves, written out as RFC 6962 has it.
func rootOf(leaves []api.ID) api.ID {
	if len(leaves) == 0 {
		return sha256.Sum256(nil)
	}
	if len(leaves) == 1 {
		return leaves[0]
	}
	k := 1
	for 2*k < len(leaves) {
		k *= 2
	}
	return nodeOf(rootOf(leaves[:k]), rootOf(leaves[k:]))
}

// peaksOf: where the whole trees of a list of so many begin and how many they have, written out.
func peaksOf(size int) [][2]int {
	var out [][2]int
	at := 0
	for count := tree.MaxSize; count > 0; count /= 2 {
		for size-at >= count {
			out = append(out, [2]int{at, count})
			at += count
		}
	}
	return out
}

// topsOf: the roots of the whole trees of leaves, written out.
func topsOf(leaves []api.ID) []api.ID {
	var out []api.ID
	for _, p := range peaksOf(len(leaves)) {
		out = append(out, rootOf(leaves[p[0]:p[0]+p[1]]))
	}
	return out
}

// folded: the root of a list whose whole trees have these roots, written out.
func folded(tops []api.ID) api.ID {
	if len(tops) == 1 {
		return tops[0]
	}
	return nodeOf(tops[0], folded(tops[1:]))
}

// greatSizes: some that no list of leaves here has.
var greatSizes = []int{
	1 << 40, 1<<40 - 1, 1<<40 - 2, 1<<40 - 3, 1<<40 - 4, 1<<39 + 1, 1 << 39, 1<<39 - 1, 1<<32 + 1, 1 << 32, 1<<32 - 1,
	1<<31 + 6, 1 << 31, 1<<31 - 1, 1<<24 + 1, 0x5555555555, 0xaaaaaaaaaa, 0xff00ff00ff, 123456789012,
}

// outside: sizes that no list has.
var outside = []int{-1, -2, -8, math.MinInt, math.MinInt + 1, -1 << 40, tree.MaxSize + 1, tree.MaxSize + 2, 1 << 41, 1<<62 + 1, math.MaxInt}

// same tells where a range isn't that of so many leaves with these tops.
func same(t *testing.T, what string, r *tree.Range, size int, tops []api.ID, root api.ID) {
	t.Helper()
	if r.Size() != size || !slices.Equal(r.Tops(), tops) || r.Root() != root {
		t.Errorf("%s: of %d leaves: Size %d, %d Tops, Root %x", what, size, r.Size(), len(r.Tops()), r.Root())
	}
}

func TestLimit(t *testing.T) { // P5.1
	if tree.MaxSize != 1099511627776 {
		t.Error("MaxSize")
	}
}

func TestPeaks(t *testing.T) { // P5.1
	sizes := slices.Clone(greatSizes)
	for size := range 600 {
		sizes = append(sizes, size)
	}
	for _, size := range sizes {
		var got [][2]int
		for at, count := range tree.Peaks(size) {
			got = append(got, [2]int{at, count})
			if len(got) > 41 {
				break
			}
		}
		if !slices.Equal(got, peaksOf(size)) {
			t.Errorf("Peaks of %d: %v", size, got)
		}
	}
}

func TestPeaksMayBeLeft(t *testing.T) { // P5.1, P1
	for _, size := range []int{1, 7, 13, 255, 0x5555555555, 1<<40 - 1} {
		want := peaksOf(size)
		for stop := 1; stop <= len(want); stop++ {
			seen := 0
			for at, count := range tree.Peaks(size) {
				if want[seen] != [2]int{at, count} {
					t.Errorf("Peaks of %d: %d %d", size, at, count)
				}
				if seen++; seen == stop {
					break
				}
			}
			if seen != stop {
				t.Errorf("of the Peaks of %d %d were gone through, not %d", size, seen, stop)
			}
		}
	}
}

func TestPeaksCanBeGoneThroughAgain(t *testing.T) { // P5.1
	it := tree.Peaks(13)
	for range it {
		break
	}
	for range 2 {
		var got [][2]int
		for at, count := range it {
			for range it { // and within itself
			}
			got = append(got, [2]int{at, count})
		}
		if !slices.Equal(got, [][2]int{{0, 8}, {8, 4}, {12, 1}}) {
			t.Errorf("another loop goes through %v", got)
		}
	}
}

func TestPeaksOfNoList(t *testing.T) { // P1: the call ends, whatever it goes through
	for _, size := range outside {
		tree.Peaks(size)
	}
}

// sizesOfRoots: those of lists whose roots are held against what is written out.
func sizesOfRoots() []int {
	sizes := []int{127, 128, 129, 255, 256, 257, 511, 513, 1000, 1023, 1024, 1025, 3000}
	for n := range 70 {
		sizes = append(sizes, n)
	}
	return sizes
}

func TestRoot(t *testing.T) { // P5.2
	for _, n := range sizesOfRoots() {
		leaves := leavesOf(n)
		if tree.Root(leaves...) != rootOf(leaves) {
			t.Errorf("Root of %d leaves", n)
		}
	}
}

func TestRootsThatAreKnown(t *testing.T) { // P5.2, P5.4: of the entries with which Certificate Transparency is tried
	entries := [][]byte{
		{}, {0}, {0x10}, {0x20, 0x21}, {0x30, 0x31}, {0x40, 0x41, 0x42, 0x43},
		{0x50, 0x51, 0x52, 0x53, 0x54, 0x55, 0x56, 0x57},
		{0x60, 0x61, 0x62, 0x63, 0x64, 0x65, 0x66, 0x67, 0x68, 0x69, 0x6a, 0x6b, 0x6c, 0x6d, 0x6e, 0x6f},
	}
	for n, want := range []string{
		"e3b0c44298fc1c149afbf4c8996fb92427ae41e4649b934ca495991b7852b855",
		"6e340b9cffb37a989ca544e6bb780a2c78901d3fb33738768511a30617afa01d",
		"fac54203e7cc696cf0dfcb42c92a1d9dbaf70ad9e621f4bd8d98662f00e3c125",
		"aeb6bcfe274b70a14fb067a5e5578264db0fa9b51af5e0ba159158f329e06e77",
		"d37ee418976dd95753c1c73862b9398fa2a2cf9b4ff0fdfe8b30cd95209614b7",
		"4e3bbb1f7b478dcfe71fb631631519a3bca12c9aefca1612bfce4c13a86264d4",
		"76e67dadbcdf1e10e1b74ddc608abd2f98dfb16fbce75277b5232a127f2087ef",
		"ddb89be403809e325750d3d263cd78929c2942b7942a34b77e122c9594a74c8c",
		"5dc9da79a70659a9ad559cb701ded9a2ab9d823aad2f4960cfe370eff4604328",
	} {
		root := tree.Root(tree.Entries(entries[:n]...)...)
		if hex.EncodeToString(root[:]) != want {
			t.Errorf("Root of the first %d: %x", n, root)
		}
	}
}

func TestExample(t *testing.T) { // the chapter's: the root of the leaves 1 and 2 is their Node
	one, two := api.ID{1}, api.ID{2}
	if tree.Root(one, two) != nodeOf(one, two) || tree.Root(two, one) == tree.Root(one, two) || tree.Root(one) != one {
		t.Error("the root of two leaves")
	}
}

func TestOf(t *testing.T) { // P5.2
	for _, n := range sizesOfRoots() {
		leaves := leavesOf(n)
		same(t, "Of", tree.Of(leaves...), n, topsOf(leaves), rootOf(leaves))
	}
}

func TestAppendOneByOne(t *testing.T) { // P5.2
	leaves := leavesOf(300)
	r := tree.Of()
	same(t, "Of none", r, 0, nil, rootOf(nil))
	for i := range leaves {
		if e := r.Append(leaves[i]); e != api.OK {
			t.Fatalf("Append: %v", e)
		}
		same(t, "Append of one", r, i+1, topsOf(leaves[:i+1]), rootOf(leaves[:i+1]))
	}
}

func TestAppendOfSeveral(t *testing.T) { // P5.2
	leaves := leavesOf(60)
	for first := range 31 {
		for count := range 30 {
			r := tree.Of(leaves[:first]...)
			if e := r.Append(leaves[first : first+count]...); e != api.OK {
				t.Errorf("Append: %v", e)
			}
			n := first + count
			same(t, "Append of several", r, n, topsOf(leaves[:n]), rootOf(leaves[:n]))
			if r.Append() != api.OK || r.Append(leaves[n]) != api.OK {
				t.Error("Append of none, and of one more")
			}
			same(t, "Append of one more", r, n+1, topsOf(leaves[:n+1]), rootOf(leaves[:n+1]))
		}
	}
}

func TestLeavesMayBeAlike(t *testing.T) { // P5.2
	for n := range 20 {
		leaves := slices.Repeat([]api.ID{{}}, n)
		same(t, "Of zero leaves", tree.Of(leaves...), n, topsOf(leaves), rootOf(leaves))
	}
}

func TestRestore(t *testing.T) { // P5.3
	leaves := leavesOf(100)
	for n := range 70 {
		r, e := tree.Restore(n, topsOf(leaves[:n])...)
		if e != api.OK || r == nil {
			t.Errorf("Restore of %d leaves: %v", n, e)
			continue
		}
		same(t, "Restore", r, n, topsOf(leaves[:n]), rootOf(leaves[:n]))
		for end := n + 1; end <= n+30; end += 29 {
			if e := r.Append(leaves[r.Size():end]...); e != api.OK {
				t.Errorf("Append behind Restore of %d: %v", n, e)
			}
			same(t, "Append behind Restore", r, end, topsOf(leaves[:end]), rootOf(leaves[:end]))
		}
	}
}

func TestRestoreOfGreatSizes(t *testing.T) { // P5.3, P5.2: of any tops
	for _, size := range greatSizes {
		tops := leavesOf(len(peaksOf(size)))
		r, e := tree.Restore(size, tops...)
		if e != api.OK || r == nil {
			t.Errorf("Restore of %d leaves: %v", size, e)
			continue
		}
		same(t, "Restore", r, size, tops, folded(tops))
		if size == tree.MaxSize {
			continue
		}
		leaf := api.ID{77}
		if e := r.Append(leaf); e != api.OK {
			t.Errorf("Append behind %d leaves: %v", size, e)
		}
		for n := size; n%2 == 1; n /= 2 {
			leaf = nodeOf(tops[len(tops)-1], leaf)
			tops = tops[:len(tops)-1]
		}
		tops = append(slices.Clone(tops), leaf)
		same(t, "Append behind so many", r, size+1, tops, folded(tops))
	}
}

func TestRestoreRefuses(t *testing.T) { // P5.3, and the order of its errors
	for _, size := range outside {
		for n := range 45 {
			if r, e := tree.Restore(size, leavesOf(n)...); e != api.ErrRange || r != nil {
				t.Errorf("Restore of %d leaves with %d tops: %v", size, n, e)
			}
		}
	}
	sizes := slices.Clone(greatSizes)
	for size := range 130 {
		sizes = append(sizes, size)
	}
	for _, size := range sizes {
		for n := range 45 {
			if n == len(peaksOf(size)) {
				continue
			}
			if r, e := tree.Restore(size, leavesOf(n)...); e != api.ErrProof || r != nil {
				t.Errorf("Restore of %d leaves with %d tops: %v", size, n, e)
			}
		}
	}
}

func TestFull(t *testing.T) { // P5.2, P2: a refused call has changed nothing
	leaves := leavesOf(70)
	for room := range 60 {
		size := tree.MaxSize - room
		tops := leavesOf(len(peaksOf(size)))
		r, e := tree.Restore(size, tops...)
		if e != api.OK || r == nil {
			t.Fatalf("Restore of %d leaves: %v", size, e)
		}
		for _, more := range []int{room + 1, room + 2, 70} {
			if e := r.Append(leaves[:more]...); e != api.ErrFull {
				t.Errorf("Append of %d where there is room for %d: %v", more, room, e)
			}
			same(t, "a refused Append", r, size, tops, folded(tops))
		}
		if e := r.Append(leaves[:room]...); e != api.OK || r.Size() != tree.MaxSize || len(r.Tops()) != 1 {
			t.Errorf("Append of %d where there is room for just these: %v", room, e)
		}
		if r.Append() != api.OK || r.Append(leaves[0]) != api.ErrFull || r.Size() != tree.MaxSize {
			t.Error("Append where there is no room")
		}
	}
}

func TestEntries(t *testing.T) { // P5.4
	r := rand.New(rand.NewSource(7))
	for n := range 20 {
		list := make([][]byte, n)
		for i := range list {
			list[i] = make([]byte, i*i*7)
			r.Read(list[i])
		}
		leaves := tree.Entries(list...)
		if len(leaves) != n {
			t.Fatalf("%d leaves of %d entries", len(leaves), n)
		}
		for i, entry := range list {
			if leaves[i] != api.ID(sha256.Sum256(append([]byte{0}, entry...))) {
				t.Errorf("the leaf %d of %d", i, n)
			}
		}
	}
	if l := tree.Entries(nil, []byte{}); len(l) != 2 || l[0] != l[1] || l[0] != api.ID(sha256.Sum256([]byte{0})) {
		t.Error("the leaves of empty entries")
	}
}

func TestArgumentsStay(t *testing.T) { // P2: neither changed nor kept, with their spare room
	for n := range 40 {
		room := leavesOf(n + 9)
		was := slices.Clone(room)
		leaves := room[:n]
		want, tops := rootOf(leaves), topsOf(leaves)
		r, s := tree.Of(leaves...), tree.Of()
		e := s.Append(leaves...)
		root := tree.Root(leaves...)
		kept := append(slices.Clone(tops), was[0], was[1], was[2])
		u, f := tree.Restore(n, kept[:len(tops)]...)
		if e != api.OK || f != api.OK || u == nil || root != want || !slices.Equal(room, was) {
			t.Fatalf("%d leaves that were handed in are changed: %v %v", n, e, f)
		}
		clear(room)
		for _, r := range []*tree.Range{r, s, u} {
			same(t, "behind a change of what was handed in", r, n, tops, want)
			if r.Append(was[n:]...) != api.OK {
				t.Error("Append")
			}
		}
		if !slices.Equal(kept, append(slices.Clone(tops), was[0], was[1], was[2])) {
			t.Errorf("the tops of %d leaves that were handed in are changed", n)
		}
		clear(kept)
		same(t, "behind a change of the tops", u, n+9, topsOf(was), rootOf(was))
	}
}

func TestAnswersAreNew(t *testing.T) { // P2: they share memory with nothing, their spare room neither
	leaves := leavesOf(80)
	for n := range 70 {
		r := tree.Of(leaves[:n]...)
		one, two := r.Tops(), r.Tops()
		_ = append(one, api.ID{99}, api.ID{98})
		clear(one[:cap(one)])
		if !slices.Equal(two, topsOf(leaves[:n])) {
			t.Errorf("two answers of Tops of %d leaves share memory", n)
		}
		same(t, "behind a change of Tops", r, n, two, rootOf(leaves[:n]))
		tops := slices.Clone(two)
		if r.Append(leaves[n:n+5]...) != api.OK || !slices.Equal(two, tops) {
			t.Errorf("Append behind %d leaves changes an elder answer of Tops", n)
		}
		same(t, "Append behind a change of Tops", r, n+5, topsOf(leaves[:n+5]), rootOf(leaves[:n+5]))
	}
	list := [][]byte{{1}, {2}}
	one, two := tree.Entries(list...), tree.Entries(list...)
	clear(one[:cap(one)])
	if list[0][0] != 1 || list[1][0] != 2 || two[0] != api.ID(sha256.Sum256([]byte{0, 1})) {
		t.Error("two answers of Entries share memory, or entries are changed")
	}
}

func TestRangesAreApart(t *testing.T) { // P2
	leaves := leavesOf(40)
	r := tree.Of(leaves[:13]...)
	s, e := tree.Restore(r.Size(), r.Tops()...)
	if e != api.OK || s == nil {
		t.Fatalf("Restore: %v", e)
	}
	r.Append(leaves[13:30]...)
	same(t, "the restored one", s, 13, topsOf(leaves[:13]), rootOf(leaves[:13]))
	s.Append(leaves[13:40]...)
	same(t, "the elder one", r, 30, topsOf(leaves[:30]), rootOf(leaves[:30]))
	same(t, "the restored one", s, 40, topsOf(leaves), rootOf(leaves))
}
