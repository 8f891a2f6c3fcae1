package client

import (
	"iter"

	"scrivener/api"
	"scrivener/proof"
	"scrivener/replica"
)

// link is two heights: the list of the second begins with that of the first.
type link struct{ first, second int }

// Linked: is it believed that the list of a height begins with that of another one?
func (c *Client) Linked(first, second int) bool {
	_, ok := c.links[link{first, second}]
	return ok
}

// Wants: for which links of heads that are accepted one may ask: from each accepted height to the best one.
func (c *Client) Wants() iter.Seq[api.Msg] {
	return func(yield func(api.Msg) bool) {
		best, _ := c.Best()
		for height := range rising(c.lacks(best.Height)) {
			if !yield(api.Msg{Kind: replica.Link, Who: c.me, Height: best.Height, Num: height}) {
				return
			}
		}
	}
}

// hearLink believes that one list begins with another, if that is proved.
func (c *Client) hearLink(m api.Msg) api.Errno {
	one, ok := c.Accepted(m.Num)
	two, both := c.Accepted(m.Height)
	if !ok || !both {
		return api.ErrMissing
	}
	e := proof.CheckConsistency(one.Size, two.Size, one.Root, two.Root, m.IDs)
	if e == api.OK {
		c.links[link{m.Num, m.Height}] = struct{}{}
	}
	return e
}

// lacks: which heights below another one have an accepted head of some entries, and aren't linked to it.
func (c *Client) lacks(second int) map[int]struct{} {
	heights := map[int]struct{}{}
	for first := 1; first < second; first++ { // a bundle has none below 1
		h, ok := c.Accepted(first)
		if ok && h.Size > 0 && !c.Linked(first, second) {
			heights[first] = struct{}{}
		}
	}
	return heights
}
