package proof

import (
	"math/bits"
	"slices"
)

// part is a piece of a list: the leaves from a place on, up to ahead of another one.
type part struct{ from, to int }

// halve cuts a part of two leaves or more as its tree is cut: into the half that has the leaf at, and the other one.
func (p part) halve(at int) (in, beside part) {
	left, right := p, p
	left.to = p.from + below(p.to-p.from)
	right.from = left.to
	if at < right.from {
		return left, right
	}
	return right, left
}

// wayOf: the parts beside the way of a leaf in a list of so many, the lowest first.
func wayOf(at, size int) []part {
	var way []part
	in, beside := part{0, size}, part{}
	for in.to-in.from > 1 {
		in, beside = in.halve(at)
		way = append(way, beside)
	}
	slices.Reverse(way)
	return way
}

// linkOf: the parts that a link has, of the first leaves in a list of so many, the lowest first.
//
// It is the way to the last one of the first leaves, down to the greatest part
// that ends with it. That one stands in the link too, unless it is all of them.
func linkOf(first, size int) []part {
	var link []part
	in, beside := part{0, size}, part{}
	for in.to > first {
		in, beside = in.halve(first - 1)
		link = append(link, beside)
	}
	if in.from > 0 {
		link = append(link, in)
	}
	slices.Reverse(link)
	return link
}

// below: the greatest power of two below n, of n above 1.
func below(n int) int { return 1 << (bits.Len(uint(n-1)) - 1) }
