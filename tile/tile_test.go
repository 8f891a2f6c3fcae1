package tile_test

import (
	"crypto/sha256"
	"encoding/binary"
	"iter"
	"math"
	"math/rand"
	"slices"
	"testing"

	"scrivener/api"
	"scrivener/tile"
)

// leavesOf: so many leaves, no two alike.
func leavesOf(n int) []api.ID {
	leaves := make([]api.ID, n)
	for i := range leaves {
		leaves[i] = sha256.Sum256([]byte{byte(i), byte(i >> 8)})
	}
	return leaves
}

func nodeOf(left, right api.ID) api.ID {
	return sha256.Sum256(append(append([]byte{1}, left[:]...), right[:]...))
}

// rootOf: the root of leaves, written out.
func rootOf(leaves []api.ID) api.ID {
	if len(leaves) == 0 {
		return sha256.Sum256(nil)
	}
	if len(leaves) == 1 {
		return leaves[0]
	}
	k := 1
	for 2*k < len(leaves) {
		k *= 2
	}
	return nodeOf(rootOf(leaves[:k]), rootOf(leaves[k:]))
}

// wayOf: the way of a leaf, written out.
func wayOf(leaves []api.ID, at int) []api.ID {
	if len(leaves) == 1 {
		return nil
	}
	k := 1
	for 2*k < len(leaves) {
		k *= 2
	}
	if at < k {
		return append(wayOf(leaves[:k], at), rootOf(leaves[k:]))
	}
	return append(wayOf(leaves[k:], at-k), rootOf(leaves[:k]))
}

// tilesOf: all tiles of leaves, written out: each sum of its own leaves.
func tilesOf(leaves []api.ID) []tile.Tile {
	var tiles []tile.Tile
	for level, under := 0, 1; under <= len(leaves); level, under = level+1, 4*under {
		var ids []api.ID
		for at := 0; at+under <= len(leaves); at += under {
			ids = append(ids, rootOf(leaves[at:at+under]))
		}
		for index := 0; len(ids) > 0; index++ {
			width := min(4, len(ids))
			tiles = append(tiles, tile.Tile{Place: tile.Place{Level: level, Index: index, Width: width}, IDs: slices.Clone(ids[:width])})
			ids = ids[width:]
		}
	}
	return tiles
}

func placesOf(size int) []tile.Place {
	var out []tile.Place
	for _, t := range tilesOf(make([]api.ID, size)) {
		out = append(out, t.Place)
	}
	return out
}

// first: what an iterator goes through, but no more than the places that a tree here has at most.
func first(it iter.Seq[tile.Place]) []tile.Place {
	var out []tile.Place
	for p := range it {
		if out = append(out, p); len(out) > tile.MaxTiles {
			break
		}
	}
	return out
}

// sizes: those of trees that are gone through tile by tile.
func sizes() []int {
	out := []int{60, 63, 64, 65, 67, 68, 80, 85, 127, 128, 255, 256, 257, 340, 1000, 1020, 1023, 1024}
	for n := range 40 {
		out = append(out, n)
	}
	return out
}

// outside: numbers that neither sizes nor places have.
var outside = []int{-1, -2, -4, -1024, 1025, 1026, 4096, 1 << 32, 1<<32 + 4, -1 << 32, math.MinInt, math.MinInt + 1, math.MaxInt, math.MaxInt - 1}

// shelfOf: a shelf on which some tiles are put.
func shelfOf(t *testing.T, size int, tiles []tile.Tile) *tile.Shelf {
	t.Helper()
	s, e := tile.New(size)
	if e != api.OK || s == nil {
		t.Fatalf("New of %d: %v", size, e)
	}
	for _, x := range tiles {
		if e := s.Put(x); e != api.OK {
			t.Fatalf("Put of %v of %d leaves: %v", x.Place, size, e)
		}
	}
	return s
}

func sameTiles(a, b []tile.Tile) bool {
	return slices.EqualFunc(a, b, func(x, y tile.Tile) bool { return x.Place == y.Place && slices.Equal(x.IDs, y.IDs) })
}

func TestLimits(t *testing.T) { // P8.1, P8.2
	if tile.Wide != 4 || tile.MaxTiles != 1000 || tile.MaxSize != 1024 {
		t.Error("the limits")
	}
}

func TestPlacesByHand(t *testing.T) { // P8.1
	for size, want := range map[int][]tile.Place{
		0:  nil,
		1:  {{0, 0, 1}},
		3:  {{0, 0, 3}},
		4:  {{0, 0, 4}, {1, 0, 1}},
		5:  {{0, 0, 4}, {0, 1, 1}, {1, 0, 1}},
		9:  {{0, 0, 4}, {0, 1, 4}, {0, 2, 1}, {1, 0, 2}},
		16: {{0, 0, 4}, {0, 1, 4}, {0, 2, 4}, {0, 3, 4}, {1, 0, 4}, {2, 0, 1}},
		21: {{0, 0, 4}, {0, 1, 4}, {0, 2, 4}, {0, 3, 4}, {0, 4, 4}, {0, 5, 1}, {1, 0, 4}, {1, 1, 1}, {2, 0, 1}},
	} {
		if got := first(tile.Places(size)); !slices.Equal(got, want) {
			t.Errorf("Places of %d: %v", size, got)
		}
	}
}

func TestPlaces(t *testing.T) { // P8.1
	for size := range 1025 {
		leaves := make([]api.ID, size)
		var want []tile.Place
		for level, under := 0, 1; under <= size; level, under = level+1, 4*under {
			for index, left := 0, len(leaves)/under; left > 0; index, left = index+1, left-4 {
				want = append(want, tile.Place{Level: level, Index: index, Width: min(4, left)})
			}
		}
		if got := first(tile.Places(size)); !slices.Equal(got, want) {
			t.Fatalf("Places of %d: %v", size, got)
		}
	}
}

func TestPlacesOfWrongSizes(t *testing.T) { // P8.1
	for _, size := range append([]int{0}, outside...) {
		if got := first(tile.Places(size)); len(got) != 0 {
			t.Errorf("Places of %d: %d", size, len(got))
		}
	}
}

func TestPlacesMayBeLeft(t *testing.T) { // P8.1, P1: at each of them
	for _, size := range []int{1, 4, 5, 16, 21, 90} {
		want := placesOf(size)
		for stop := 1; stop <= len(want); stop++ {
			var got []tile.Place
			for p := range tile.Places(size) {
				if got = append(got, p); len(got) == stop {
					break
				}
			}
			if !slices.Equal(got, want[:stop]) {
				t.Errorf("Places of %d, left behind %d: %v", size, stop, got)
			}
		}
	}
}

func TestPlacesCanBeGoneThroughAgain(t *testing.T) { // P8.1
	it := tile.Places(21)
	for range it {
		break
	}
	for range 2 {
		var got []tile.Place
		for p := range it {
			for range it { // and within itself
				break
			}
			got = append(got, p)
		}
		if !slices.Equal(got, placesOf(21)) {
			t.Errorf("another loop: %v", got)
		}
	}
}

func TestCut(t *testing.T) { // P8.2
	for _, n := range sizes() {
		leaves := leavesOf(n)
		if tiles, e := tile.Cut(leaves); e != api.OK || !sameTiles(tiles, tilesOf(leaves)) {
			t.Errorf("Cut of %d: %v, %d tiles", n, e, len(tiles))
		}
	}
	if tiles, e := tile.Cut(nil); e != api.OK || len(tiles) != 0 {
		t.Errorf("Cut of nil: %v", e)
	}
}

func TestCutByHand(t *testing.T) { // P8.2, and the chapter's example
	l := []api.ID{{1}, {2}, {3}, {4}, {5}}
	above := nodeOf(nodeOf(l[0], l[1]), nodeOf(l[2], l[3]))
	want := []tile.Tile{
		{Place: tile.Place{Level: 0, Index: 0, Width: 4}, IDs: l[:4]},
		{Place: tile.Place{Level: 0, Index: 1, Width: 1}, IDs: l[4:]},
		{Place: tile.Place{Level: 1, Index: 0, Width: 1}, IDs: []api.ID{above}},
	}
	if tiles, e := tile.Cut(l); e != api.OK || !sameTiles(tiles, want) {
		t.Errorf("Cut of five leaves: %v, %v", e, tiles)
	}
}

func TestCutOfTooMany(t *testing.T) { // P8.2
	for _, n := range []int{1025, 1026, 1028, 2048, 5000} {
		if tiles, e := tile.Cut(make([]api.ID, n)); e != api.ErrLong || len(tiles) != 0 {
			t.Errorf("Cut of %d: %v", n, e)
		}
	}
}

func TestNew(t *testing.T) { // P8.3
	for _, size := range []int{0, 1, 4, 5, 1023, 1024} {
		s, e := tile.New(size)
		if e != api.OK || s == nil {
			t.Fatalf("New of %d: %v", size, e)
		}
		if got := first(s.Lacks()); !slices.Equal(got, placesOf(size)) {
			t.Errorf("a new shelf of %d lacks %d", size, len(got))
		}
	}
	for _, size := range outside {
		if s, e := tile.New(size); e != api.ErrRange || s != nil {
			t.Errorf("New of %d: %v", size, e)
		}
	}
}

// otherPlaces: places that a tree of a size hasn't, of one that it has.
func otherPlaces(p tile.Place, size int) []tile.Place {
	out := []tile.Place{{}, {Level: p.Level}, {Level: 9, Width: 1}, {Level: 0, Index: 256, Width: 4}}
	for _, n := range append([]int{0, 5, 255}, outside...) {
		out = append(out, tile.Place{Level: p.Level, Index: p.Index, Width: n})
		if n > 5 || n < 0 {
			out = append(out, tile.Place{Level: n, Index: p.Index, Width: p.Width}, tile.Place{Level: p.Level, Index: n, Width: p.Width})
		}
	}
	has := placesOf(size)
	for width := 1; width <= 4; width++ {
		if q := (tile.Place{Level: p.Level, Index: p.Index, Width: width}); !slices.Contains(has, q) {
			out = append(out, q)
		}
	}
	return out
}

func TestPutRefuses(t *testing.T) { // P8.3, and the order of its errors
	for _, n := range []int{1, 2, 4, 5, 9, 16, 21, 70} {
		leaves := leavesOf(n)
		s, _ := tile.New(n)
		for _, x := range tilesOf(leaves) {
			for range 2 { // while it isn't there, and when it is
				lacks := first(s.Lacks())
				for _, p := range otherPlaces(x.Place, n) {
					for _, ids := range [][]api.ID{x.IDs, nil, leavesOf(min(max(p.Width, 0), 300))} {
						if e := s.Put(tile.Tile{Place: p, IDs: ids}); e != api.ErrMissing {
							t.Fatalf("Put of %v of %d leaves: %v", p, n, e)
						}
					}
				}
				for width := range 10 {
					if e := s.Put(tile.Tile{Place: x.Place, IDs: make([]api.ID, width)}); width != x.Width && e != api.ErrTile {
						t.Fatalf("Put of %v with %d sums: %v", x.Place, width, e)
					} else if width == x.Width && (e == api.OK) != slices.Contains(lacks, x.Place) {
						t.Fatalf("Put of %v: %v", x.Place, e)
					}
				}
			}
			if e := s.Put(x); e != api.ErrTwice {
				t.Errorf("Put of %v twice: %v", x.Place, e)
			}
		}
	}
	s, _ := tile.New(0)
	for _, p := range []tile.Place{{}, {Width: 1}, {Width: 4}, {Level: 1, Width: 1}} {
		if e := s.Put(tile.Tile{Place: p, IDs: make([]api.ID, p.Width)}); e != api.ErrMissing {
			t.Errorf("Put of %v where no tile is: %v", p, e)
		}
	}
}

func TestRefusedPutsChangeNothing(t *testing.T) { // P8.3, P2
	leaves := leavesOf(21)
	tiles := tilesOf(leaves)
	s := shelfOf(t, 21, tiles[1:])
	for _, x := range tiles[1:] {
		if e := s.Put(tile.Tile{Place: x.Place, IDs: make([]api.ID, x.Width)}); e != api.ErrTwice {
			t.Errorf("Put of another tile of %v: %v", x.Place, e)
		}
	}
	s.Put(tile.Tile{Place: tiles[0].Place, IDs: leaves[:3]})
	s.Put(tile.Tile{Place: tile.Place{Level: 0, Index: 0, Width: 3}, IDs: leaves[:3]})
	if got := first(s.Lacks()); !slices.Equal(got, []tile.Place{tiles[0].Place}) {
		t.Errorf("behind refused ones there lacks %v", got)
	}
	if s.Put(tiles[0]) != api.OK {
		t.Error("Put of the tile that was refused")
	}
	if got, e := s.Leaves(rootOf(leaves)); e != api.OK || !slices.Equal(got, leaves) {
		t.Errorf("Leaves behind refused ones: %v", e)
	}
}

func TestLacks(t *testing.T) { // P8.3: in the order of the places, however they were put
	r := rand.New(rand.NewSource(3))
	for _, n := range []int{0, 1, 4, 5, 21, 64, 90} {
		tiles := tilesOf(leavesOf(n))
		lacks := placesOf(n)
		s, _ := tile.New(n)
		for _, i := range r.Perm(len(tiles)) {
			if got := first(s.Lacks()); !slices.Equal(got, lacks) {
				t.Fatalf("of %d leaves there lacks %v, not %v", n, got, lacks)
			}
			if s.Put(tiles[i]) != api.OK {
				t.Fatalf("Put of %v", tiles[i].Place)
			}
			lacks = slices.DeleteFunc(lacks, func(p tile.Place) bool { return p == tiles[i].Place })
		}
		if got := first(s.Lacks()); len(got) != 0 {
			t.Errorf("of %d leaves, all there, there lacks %v", n, got)
		}
	}
}

func TestLacksOfThen(t *testing.T) { // P8.3, rule 6: what there lacks when the loop begins; a loop may be left
	tiles := tilesOf(leavesOf(21))
	s, _ := tile.New(21)
	it := s.Lacks()
	for i, x := range tiles {
		for stop := 1; stop <= len(tiles)-i; stop++ {
			var got []tile.Place
			for p := range it {
				if got = append(got, p); len(got) == stop {
					break
				}
			}
			if !slices.Equal(got, placesOf(21)[i:i+stop]) {
				t.Errorf("with %d tiles there, left behind %d: %v", i, stop, got)
			}
		}
		s.Put(x)
	}
	if got := first(it); len(got) != 0 {
		t.Errorf("with all there: %v", got)
	}
}

func TestLeaves(t *testing.T) { // P8.4
	r := rand.New(rand.NewSource(4))
	for _, n := range sizes() {
		leaves := leavesOf(n)
		tiles := tilesOf(leaves)
		r.Shuffle(len(tiles), func(i, j int) { tiles[i], tiles[j] = tiles[j], tiles[i] })
		s := shelfOf(t, n, tiles)
		for range 2 {
			if got, e := s.Leaves(rootOf(leaves)); e != api.OK || !slices.Equal(got, leaves) {
				t.Errorf("Leaves of %d: %v", n, e)
			}
			if got, e := s.Leaves(api.ID{}); e != api.ErrProof || len(got) != 0 {
				t.Errorf("Leaves of %d of another root: %v", n, e)
			}
		}
	}
}

func TestLeavesOfSomeTiles(t *testing.T) { // P8.4: one lacks, whatever the others are
	for _, n := range []int{1, 4, 5, 21, 70} {
		leaves := leavesOf(n)
		tiles := tilesOf(leaves)
		for i := range tiles {
			s := shelfOf(t, n, slices.Delete(slices.Clone(tiles), i, i+1))
			if got, e := s.Leaves(rootOf(leaves)); e != api.ErrMissing || len(got) != 0 {
				t.Errorf("Leaves of %d without %v: %v", n, tiles[i].Place, e)
			}
			bad, _ := tile.New(n)
			for j, x := range tiles {
				if j != i {
					bad.Put(tile.Tile{Place: x.Place, IDs: make([]api.ID, x.Width)})
				}
			}
			if _, e := bad.Leaves(api.ID{}); e != api.ErrMissing {
				t.Errorf("Leaves of %d of wrong tiles without %v: %v", n, tiles[i].Place, e)
			}
		}
	}
}

func TestLeavesOfOtherSums(t *testing.T) { // P8.4: each sum of each tile counts
	for _, n := range []int{1, 3, 4, 5, 16, 21, 70} {
		leaves := leavesOf(n)
		tiles := tilesOf(leaves)
		for i, x := range tiles {
			for j := range x.IDs {
				others := slices.Clone(tiles)
				others[i].IDs = slices.Clone(x.IDs)
				others[i].IDs[j][j] ^= 1
				s := shelfOf(t, n, others)
				want := api.ErrTile
				if x.Level == 0 && x.Width < 4 { // nothing is above it
					want = api.ErrProof
				}
				for _, root := range []api.ID{rootOf(leaves), {}} {
					if got, e := s.Leaves(root); e != want || len(got) != 0 {
						t.Errorf("Leaves of %d with another sum %d in %v: %v, not %v", n, j, x.Place, e, want)
					}
					if way, e := s.Way(0, root); e != want || len(way) != 0 {
						t.Errorf("Way in %d with another sum %d in %v: %v, not %v", n, j, x.Place, e, want)
					}
				}
			}
		}
	}
}

func TestLeavesOfAnotherTree(t *testing.T) { // P8.4: tiles that fit, of another root
	for _, n := range []int{1, 4, 5, 21, 70} {
		leaves := leavesOf(n)
		for i := range leaves {
			others := slices.Clone(leaves)
			others[i][31] ^= 128
			s := shelfOf(t, n, tilesOf(others))
			if got, e := s.Leaves(rootOf(leaves)); e != api.ErrProof || len(got) != 0 {
				t.Errorf("Leaves of %d of which another one is %d: %v", n, i, e)
			}
			if got, e := s.Leaves(rootOf(others)); e != api.OK || !slices.Equal(got, others) {
				t.Errorf("Leaves of %d of which another one is %d, of their root: %v", n, i, e)
			}
		}
	}
}

func TestNoLeaves(t *testing.T) { // P8.4
	s, _ := tile.New(0)
	if got, e := s.Leaves(sha256.Sum256(nil)); e != api.OK || len(got) != 0 {
		t.Errorf("no leaves: %v", e)
	}
	if got, e := s.Leaves(api.ID{}); e != api.ErrProof || len(got) != 0 {
		t.Errorf("no leaves of another root: %v", e)
	}
	if way, e := s.Way(0, sha256.Sum256(nil)); e != api.ErrRange || len(way) != 0 {
		t.Errorf("the way of the first of none: %v", e)
	}
	if way, e := s.Way(0, api.ID{}); e != api.ErrProof || len(way) != 0 {
		t.Errorf("the way of the first of none to another root: %v", e)
	}
}

func TestWay(t *testing.T) { // P8.4
	for _, n := range []int{1, 2, 3, 4, 5, 7, 16, 17, 21, 70} {
		leaves := leavesOf(n)
		root := rootOf(leaves)
		s := shelfOf(t, n, tilesOf(leaves))
		for at := range n {
			if way, e := s.Way(at, root); e != api.OK || !slices.Equal(way, wayOf(leaves, at)) {
				t.Errorf("Way of %d of %d: %v", at, n, e)
			}
			if way, e := s.Way(at, api.ID{1}); e != api.ErrProof || len(way) != 0 {
				t.Errorf("Way of %d of %d to another root: %v", at, n, e)
			}
		}
		for _, at := range append([]int{n, n + 1, -n}, outside...) {
			if way, e := s.Way(at, root); e != api.ErrRange || len(way) != 0 {
				t.Errorf("Way of %d of %d: %v", at, n, e)
			}
			if way, e := s.Way(at, api.ID{1}); e != api.ErrProof || len(way) != 0 {
				t.Errorf("Way of %d of %d to another root: %v", at, n, e)
			}
		}
		some := shelfOf(t, n, tilesOf(leaves)[1:])
		for _, at := range []int{0, n - 1, n, -1} {
			if way, e := some.Way(at, root); e != api.ErrMissing || len(way) != 0 {
				t.Errorf("Way of %d of %d without a tile: %v", at, n, e)
			}
		}
	}
}

// sumOf: a tile's sum, written out.
func sumOf(level, high, low, width byte, ids []api.ID) api.ID {
	b := append(binary.BigEndian.AppendUint32([]byte("tile\x00"), 4), level, high, low, width)
	b = binary.BigEndian.AppendUint32(b, uint32(32*len(ids)))
	for _, id := range ids {
		b = append(b, id[:]...)
	}
	return sha256.Sum256(b)
}

func TestSum(t *testing.T) { // P8.5
	ids := leavesOf(300)
	for _, c := range []struct {
		p                      tile.Place
		level, high, low, wide byte
		ids                    []api.ID
	}{
		{tile.Place{}, 0, 0, 0, 0, nil},
		{tile.Place{Level: 1}, 1, 0, 0, 0, nil},
		{tile.Place{Index: 1}, 0, 0, 1, 0, nil},
		{tile.Place{Width: 1}, 0, 0, 0, 1, ids[:1]},
		{tile.Place{Level: 2, Index: 258, Width: 4}, 2, 1, 2, 4, ids[:4]},
		{tile.Place{Level: 255, Index: 65535, Width: 255}, 255, 255, 255, 255, ids[:255]},
		{tile.Place{Level: 3, Index: 256, Width: 4}, 3, 1, 0, 4, ids[1:2]},
		{tile.Place{Level: 3, Index: 255, Width: 4}, 3, 0, 255, 4, ids},
	} {
		x := tile.Tile{Place: c.p, IDs: c.ids}
		if x.Sum() != sumOf(c.level, c.high, c.low, c.wide, c.ids) {
			t.Errorf("Sum of %v with %d sums", c.p, len(c.ids))
		}
	}
	seen := map[api.ID]bool{}
	tiles := tilesOf(make([]api.ID, 70))
	for _, x := range tiles {
		seen[x.Sum()] = true
	}
	if len(seen) != len(tiles) {
		t.Error("two tiles with one Sum")
	}
}

func TestWrongTilesHaveSums(t *testing.T) { // P1
	for _, n := range outside {
		tile.Tile{Place: tile.Place{Level: n, Index: n, Width: n}}.Sum()
	}
}

func TestNothingIsKept(t *testing.T) { // P2: a shelf has its own tiles
	leaves := leavesOf(21)
	s, _ := tile.New(21)
	for _, x := range tilesOf(leaves) {
		room := append(slices.Clone(x.IDs), api.ID{7})
		was := slices.Clone(room)
		x.IDs = room[:x.Width]
		if s.Put(x) != api.OK || !slices.Equal(room, was) {
			t.Errorf("Put of %v changes what is put", x.Place)
		}
		clear(room)
	}
	if got, e := s.Leaves(rootOf(leaves)); e != api.OK || !slices.Equal(got, leaves) {
		t.Errorf("who changes what was put changes the shelf: %v", e)
	}
}

func TestNothingIsShared(t *testing.T) { // P2: what is answered is new memory, its spare room too
	for _, n := range []int{1, 4, 5, 21, 70} {
		room := leavesOf(n + 5)
		was := slices.Clone(room)
		tiles, _ := tile.Cut(room[:n])
		for i, x := range tiles {
			clear(x.IDs[:cap(x.IDs)])
			if !sameTiles(tiles[i+1:], tilesOf(was[:n])[i+1:]) || !slices.Equal(room, was) {
				t.Fatalf("a tile of %d leaves shares memory", n)
			}
		}
		s := shelfOf(t, n, tilesOf(was[:n]))
		for range 2 {
			got, e := s.Leaves(rootOf(was[:n]))
			if e != api.OK || !slices.Equal(got, was[:n]) {
				t.Errorf("Leaves share memory with what is kept: %v", e)
			}
			clear(got[:cap(got)])
			way, e := s.Way(0, rootOf(was[:n]))
			if e != api.OK || !slices.Equal(way, wayOf(was[:n], 0)) {
				t.Errorf("Way shares memory with what is kept: %v", e)
			}
			clear(way[:cap(way)])
		}
	}
}

func TestSumChangesNothing(t *testing.T) { // P2
	room := leavesOf(6)
	x := tile.Tile{Place: tile.Place{Width: 4}, IDs: room[:4]}
	if x.Sum() != x.Sum() || !slices.Equal(room, leavesOf(6)) {
		t.Error("Sum changes sums")
	}
}

func TestShelvesAreApart(t *testing.T) { // P2: each has its own tiles
	leaves := leavesOf(5)
	one, two := shelfOf(t, 5, tilesOf(leaves)), shelfOf(t, 5, nil)
	if got := first(two.Lacks()); !slices.Equal(got, placesOf(5)) {
		t.Errorf("another shelf lacks %v", got)
	}
	if _, e := one.Leaves(rootOf(leaves)); e != api.OK {
		t.Errorf("Leaves: %v", e)
	}
}
