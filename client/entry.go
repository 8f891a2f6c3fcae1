package client

import (
	"bytes"
	"slices"

	"scrivener/api"
	"scrivener/book"
	"scrivener/proof"
	"scrivener/sum"
)

// How many proofs of an entry are kept, and how many sums one has, at most.
const (
	maxProofs = 8
	maxWay    = 64
)

// entry is one that is under way.
type entry struct {
	bytes  []byte
	proofs []claim // the eldest first
}

// claim says that an entry is at a place, by the head of a height; that head may still be to come.
type claim struct {
	Taken
	way []api.ID
}

// hearProof keeps a proof of an entry that is under way.
func (c *Client) hearProof(m api.Msg) api.Errno {
	named, e := book.Check(m.Data)
	if e != api.OK {
		return e
	}
	c.believe()
	en := c.open[named.Num]
	switch {
	case en == nil, !bytes.Equal(en.bytes, m.Data):
		return api.ErrMissing
	case len(m.IDs) > maxWay:
		return api.ErrLong
	}
	en.keep(claim{Taken{m.Height, m.Num}, slices.Clone(m.IDs)})
	return api.OK
}

// keep puts a proof behind those that came ahead of it, of which none for its height and place stays.
func (en *entry) keep(p claim) {
	en.proofs = slices.DeleteFunc(en.proofs, func(elder claim) bool { return elder.Taken == p.Taken })
	en.proofs = append(en.proofs, p)
	if len(en.proofs) > maxProofs {
		en.proofs = slices.Delete(en.proofs, 0, 1)
	}
}

// believe looks which entries are proved to be in the list. Every call that tells of entries asks it first, as heads come to the Bundle's own Add too.
func (c *Client) believe() {
entries:
	for num, en := range rising(c.open) {
		leaf := sum.Leaf(en.bytes)
		for _, p := range en.proofs {
			if !c.leads(leaf, p) {
				continue
			}
			c.taken[num] = p.Taken
			delete(c.open, num)
			continue entries
		}
	}
}

// leads: does a proof lead from a leaf to the head that is accepted at its height?
func (c *Client) leads(leaf api.ID, p claim) bool {
	h, ok := c.Accepted(p.Height)
	return ok && proof.CheckInclusion(leaf, p.At, h.Size, p.way, h.Root) == api.OK
}
