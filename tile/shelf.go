package tile

import (
	"iter"
	"slices"

	"scrivener/api"
	"scrivener/proof"
	"scrivener/tree"
)

// Shelf is tiles that are there, of a tree of so many leaves: of each place its sums.
type Shelf struct {
	size  int
	tiles map[Place][]api.ID
}

// New: a shelf for the tiles of a tree of so many leaves.
func New(size int) (*Shelf, api.Errno) {
	if size < 0 || size > MaxSize {
		return nil, api.ErrRange
	}
	return &Shelf{size: size, tiles: map[Place][]api.ID{}}, api.OK
}

// Put: a tile is there; nobody looks yet whether it is right.
func (s *Shelf) Put(t Tile) api.Errno {
	switch {
	case !s.isPlace(t.Place):
		return api.ErrMissing
	case len(t.IDs) != t.Width:
		return api.ErrTile
	case s.has(t.Place):
		return api.ErrTwice
	}
	s.tiles[t.Place] = slices.Clone(t.IDs)
	return api.OK
}

// Lacks goes through the places of tiles that aren't there.
func (s *Shelf) Lacks() iter.Seq[Place] {
	return func(yield func(Place) bool) {
		for p := range Places(s.size) {
			if !s.has(p) && !yield(p) {
				return
			}
		}
	}
}

// Leaves: the leaves, if all tiles are there, fit one another, and make a root.
func (s *Shelf) Leaves(root api.ID) ([]api.ID, api.Errno) {
	for range s.Lacks() {
		return nil, api.ErrMissing
	}
	leaves := s.lowest()
	if !s.isCutOf(leaves) {
		return nil, api.ErrTile
	}
	if tree.Root(leaves...) != root {
		return nil, api.ErrProof
	}
	return leaves, api.OK
}

// Way: the way of a leaf to a root, of tiles that fit.
func (s *Shelf) Way(at int, root api.ID) ([]api.ID, api.Errno) {
	leaves, e := s.Leaves(root)
	if e != api.OK {
		return nil, e
	}
	return proof.Inclusion(leaves, at)
}

// isPlace: is it one of the tree's places?
func (s *Shelf) isPlace(place Place) bool {
	found := false
places:
	for p := range Places(s.size) {
		switch {
		case p == place:
			found = true
			break places
		case p.Level > place.Level: // those of its level are gone by
			break places
		}
	}
	return found
}

// has: is a tile of a place there?
func (s *Shelf) has(p Place) bool {
	_, there := s.tiles[p]
	return there
}

// lowest: the sums of level 0.
func (s *Shelf) lowest() []api.ID {
	var leaves []api.ID
places:
	for p := range Places(s.size) {
		switch p.Level {
		case 0:
			leaves = append(leaves, s.tiles[p]...)
		default:
			break places
		}
	}
	return leaves
}

// isCutOf: are the tiles, of which none is lacking, those of a tree of these leaves?
func (s *Shelf) isCutOf(leaves []api.ID) bool {
	tiles, e := Cut(leaves)
	for _, t := range tiles {
		if !slices.Equal(t.IDs, s.tiles[t.Place]) {
			return false
		}
	}
	return e == api.OK
}
