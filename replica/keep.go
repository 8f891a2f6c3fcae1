package replica

import (
	"scrivener/api"
	"scrivener/core"
	"scrivener/count"
	"scrivener/pack"
)

// keep: a message of the core is on the slab, ahead of being told; false: it can't be.
func (r *Replica) keep(m api.Msg) bool {
	if m.Kind == core.State && !r.keepVoted(m.IDs) {
		return false
	}
	return r.record(m)
}

// keepVoted: the batches for which one voted late are on the slab. Who holds to one, and doesn't have it any more behind a crash, could neither offer it to the others nor let it go.
func (r *Replica) keepVoted(votes []api.ID) bool {
	for i, id := range votes {
		batch, there := r.known[id]
		if i%2 != count.Precommit || !there {
			continue
		}
		m := r.message(core.Value)
		m.Data = batch
		if !r.record(m) {
			return false
		}
	}
	return true
}

// record: a message is on the slab, once; false: it can't be, and nothing is said any more.
func (r *Replica) record(m api.Msg) bool {
	b, e := pack.Write(m)
	if _, there := r.kept[string(b)]; e == api.OK && !there {
		e = r.journal.Write(b)
	}
	if e != api.OK {
		r.halted = true
		return false
	}
	r.kept[string(b)] = struct{}{}
	return true
}

// recallAll: all is as the records on the slab have it; false: they aren't a replica's.
func (r *Replica) recallAll() bool {
	for i := range r.journal.Len() {
		b, _ := r.journal.At(i)
		m, e := pack.Read(b)
		if e != api.OK || r.core == nil || m.Height != r.here() {
			return false
		}
		r.kept[string(b)] = struct{}{}
		if !r.recall(m) {
			return false
		}
	}
	return true
}

// recall: a message that was kept, from the height here; false: it isn't one of a replica.
func (r *Replica) recall(m api.Msg) bool {
	switch m.Kind {
	case core.Propose, core.State:
		r.core.Recall(m)
	case core.Value:
		r.core.Recall(api.Msg{Kind: core.Propose, Height: m.Height, Round: count.MaxRounds, Data: m.Data}) // there is no such round: so it is known, and nothing is offered
	case Decided:
		r.take(m.Data)
	default:
		return false
	}
	return true
}
