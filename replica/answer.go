package replica

import (
	"slices"

	"scrivener/api"
	"scrivener/book"
	"scrivener/head"
	"scrivener/proof"
)

// answer: for whose the entry at a place is: a head that has it, signed, and that it is there.
func (r *Replica) answer(at int) []Out {
	entry, _ := r.At(at)
	m, _ := book.Check(entry) // else the book wouldn't have it
	h, _ := r.Since(at)
	signed, _ := head.Sign(r.ring, r.me, h) // there are no heights for which there is no key
	return []Out{
		{Client: true, To: m.Who, Msg: signed.Msg()},
		{Client: true, To: m.Who, Msg: r.proof(at, h, entry)},
	}
}

// proof: the message that an entry is in the list of a head.
func (r *Replica) proof(at int, h book.Head, entry []byte) api.Msg {
	leaves, _ := r.Leaves(h.Size)
	way, _ := proof.Inclusion(leaves, at)
	return api.Msg{Kind: Proof, Who: r.me, Height: h.Height, Num: at, IDs: way, Data: entry}
}

// decided: for another one, what was agreed upon at a height that is over.
func (r *Replica) decided(to, height int) []Out {
	return []Out{{To: to, Msg: api.Msg{Kind: Decided, Who: r.me, Height: height, Data: slices.Clone(r.batches[height-1])}}}
}

// message: one's own at the height here, with nothing in it yet.
func (r *Replica) message(kind int) api.Msg {
	return api.Msg{Kind: kind, Who: r.me, Height: r.here()}
}
