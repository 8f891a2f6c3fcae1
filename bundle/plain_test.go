package bundle_test

import (
	"math"
	"slices"
	"testing"

	"scrivener/api"
	"scrivener/book"
	"scrivener/bundle"
	"scrivener/head"
	"scrivener/keys"
)

// maxNum is layer 2's MaxNum, written out.
const maxNum = 1099511627776

// need: of how many signers how many must have signed a head, as layer 13 has it.
var need = map[int]int{1: 1, 4: 3, 7: 5}

// odd are numbers that are no height, and nobody's.
var odd = []int{math.MinInt, -9, -1, 9, 16, 258, maxNum, math.MaxInt}

// rings are the keys of seven signers.
var rings = func() (list []*keys.Ring) {
	for i := range 7 {
		list = append(list, keys.New(api.ID{byte(i), 1}))
	}
	return list
}()

// publics are the public keys of the first signers.
func publics(signers int) (list []api.ID) {
	for _, r := range rings[:signers] {
		list = append(list, r.Public())
	}
	return list
}

// at: one of several heads of a height.
func at(height, which int) book.Head {
	return book.Head{Height: height, Size: 10*height + which/2, Root: api.ID{byte(which % 2), 31: 9}}
}

// by: a head that somebody signed.
func by(who int, h book.Head) head.Signed {
	s, _ := head.Sign(rings[who], who, h)
	return s
}

// plain is a bundle as plain as may be: the chapter's sentences, one by one.
type plain struct {
	publics []api.ID
	list    []head.Signed
}

func (p *plain) add(from int, m api.Msg) api.Errno {
	s, e := head.Read(m)
	if e != api.OK {
		return e
	}
	if from < 0 || from > len(p.publics)-1 || s.Who != from || s.Height < 1 || s.Height > 8 {
		return api.ErrRange
	}
	for _, x := range p.list {
		if x.Height == s.Height && x.Who == from {
			return api.ErrTwice
		}
	}
	if e := s.Check(p.publics[from]); e != api.OK {
		return e
	}
	p.list = append(p.list, s)
	return api.OK
}

// of: the signed heads of a height.
func (p *plain) of(height int) (list []head.Signed) {
	for _, s := range p.list {
		if s.Height == height {
			list = append(list, s)
		}
	}
	return list
}

// accepted: of a height the head that enough signed.
func (p *plain) accepted(height int) (book.Head, bool) {
	for _, s := range p.of(height) {
		n := 0
		for _, x := range p.of(height) {
			if x.Size == s.Size && x.Root == s.Root {
				n++
			}
		}
		if n >= need[len(p.publics)] {
			return s.Head, true
		}
	}
	return book.Head{}, false
}

func (p *plain) best() (best book.Head, some bool) {
	for height := range 9 {
		if h, ok := p.accepted(height); ok {
			best, some = h, true
		}
	}
	return best, some
}

// fresh: a bundle without heads, and a plain one, of the first signers.
func fresh(t *testing.T, signers int) (*bundle.Bundle, *plain) {
	t.Helper()
	b, e := bundle.New(publics(signers)...)
	if e != api.OK || b == nil {
		t.Fatalf("New of %d: %v", signers, e)
	}
	return b, &plain{publics: publics(signers)}
}

// adds: is this what Add says of a message, of the plain one too?
func adds(t *testing.T, what string, b *bundle.Bundle, p *plain, from int, m api.Msg, want api.Errno) {
	t.Helper()
	if e, f := b.Add(from, m), p.add(from, m); e != want || f != want {
		t.Errorf("%s: %v, the plain one %v, want %v", what, e, f, want)
	}
	same(t, what, b, p)
}

// same: is a bundle as the plain one?
func same(t *testing.T, what string, b *bundle.Bundle, p *plain) {
	t.Helper()
	for _, height := range append([]int{0, 1, 2, 3, 4, 5, 6, 7, 8}, odd...) {
		if got := slices.Collect(b.At(height)); !slices.Equal(got, p.of(height)) {
			t.Errorf("%s: At(%d) goes through %d, want %d", what, height, len(got), len(p.of(height)))
		}
		h, ok := b.Accepted(height)
		if want, is := p.accepted(height); h != want || ok != is {
			t.Errorf("%s: Accepted(%d): %v, %v, want %v, %v", what, height, h, ok, want, is)
		}
	}
	h, ok := b.Best()
	if want, is := p.best(); h != want || ok != is {
		t.Errorf("%s: Best: %v, %v, want %v, %v", what, h, ok, want, is)
	}
}
