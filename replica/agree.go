package replica

import (
	"bytes"
	"maps"
	"slices"

	"scrivener/api"
	"scrivener/core"
	"scrivener/count"
	"scrivener/head"
	"scrivener/round"
)

// propose: what waits is to be agreed upon here.
func (r *Replica) propose() []Out {
	if r.Waiting() == 0 || r.core == nil {
		return nil
	}
	batch := r.pool.Batch()
	r.learn(batch)
	sent := r.core.Suggest(batch) // ahead of Join, so that the first round begins with it
	return r.say(append(sent, r.core.Join()...))
}

// agree: a message of agreement for the height here.
func (r *Replica) agree(from int, m api.Msg) []Out {
	sent := r.core.Join() // nothing, if it is begun
	if r.teaches(from, m) {
		r.learn(m.Data)
	}
	return r.say(append(sent, r.core.Hear(from, m)...))
}

// turn: the clock of agreement goes on, if it is begun: as it is where something waits, and where votes were kept from before a crash.
func (r *Replica) turn() []Out {
	if r.Round() < 0 {
		return nil
	}
	sent := append(r.core.Join(), r.overdue()...) // Join: nothing, but behind a crash
	list := r.say(append(sent, r.core.Tick()...))
	return append(list, r.conclude()...)
}

// foresee: votes for a later height are heard with the clock when that is here, as who cast them may tell them no more by then: of each the most.
func (r *Replica) foresee(from int, m api.Msg) {
	votes := m.IDs[:min(len(m.IDs), 2*count.MaxRounds)]
	if key := (ballot{from, m.Height}); m.Kind == core.State && len(votes) > len(r.early[key]) {
		r.early[key] = slices.Clone(votes)
	}
}

// overdue: votes that were told ahead of the height here are heard, if they weren't yet.
func (r *Replica) overdue() []api.Msg {
	var sent []api.Msg
	for who := range r.voters {
		m := api.Msg{Kind: core.State, Who: who, Height: r.here(), IDs: r.early[ballot{who, r.here()}]}
		sent = append(sent, r.core.Hear(who, m)...)
	}
	return sent
}

// say: what the core sends is kept, and then told; and what was agreed upon by it is done.
func (r *Replica) say(sent []api.Msg) []Out {
	var list []Out
	for _, m := range sent {
		if !r.keep(m) {
			return nil
		}
		if r.voters > 1 {
			list = append(list, Out{To: all, Msg: m})
		}
	}
	if batch, done := r.core.Done(); done {
		list = append(list, r.agreed(batch)...)
	}
	return list
}

// reckon: somebody says what was agreed upon here; it was, if one of those who say so isn't faulty.
func (r *Replica) reckon(from int, batch []byte) []Out {
	if _, there := r.said[from]; there {
		return nil
	}
	r.said[from] = slices.Clone(batch)
	same := 0
	for _, other := range r.said {
		if bytes.Equal(other, batch) {
			same++
		}
	}
	if same <= count.Faults(r.voters) {
		return nil
	}
	return r.agreed(batch)
}

// conclude: who is at a later height tells no votes of this one any more, and where these were lost the others would wait for them for ever. So who says what was agreed upon counts, with the clock, as having voted late for it.
func (r *Replica) conclude() []Out {
	for who := range r.voters {
		if batch, there := r.said[who]; there && !r.halted && r.settled(batch) {
			return r.agreed(batch)
		}
	}
	return nil
}

// settled: were those who voted late for a batch in some round, and those who say that it was agreed upon, so many that nothing else can be?
func (r *Replica) settled(batch []byte) bool {
	id := core.ID(batch)
	for n := range count.MaxRounds {
		many := 0
		for who := range r.voters {
			said, there := r.said[who]
			if r.core.Vote(n, count.Precommit, who) == id || there && bytes.Equal(said, batch) {
				many++
			}
		}
		if many >= count.Need(r.voters) {
			return true
		}
	}
	return false
}

// agreed: a batch was agreed upon here.
func (r *Replica) agreed(batch []byte) []Out {
	m := r.message(Decided)
	m.Data = batch
	if !r.record(m) {
		return nil
	}
	var list []Out
	first := r.Size()
	r.take(batch)
	for at := first; at < r.Size(); at++ {
		list = append(list, r.answer(at)...)
	}
	return append(list, r.propose()...)
}

// take: a batch that is kept is in the book, and the next height is here.
func (r *Replica) take(batch []byte) {
	r.Apply(batch)
	r.batches = append(r.batches, slices.Clone(batch))
	r.pool.Done(r.Book)
	r.next()
}

// next: nothing was said yet at the height here.
func (r *Replica) next() {
	clear(r.kept)
	clear(r.known)
	clear(r.gave)
	clear(r.said)
	maps.DeleteFunc(r.early, func(b ballot, _ []api.ID) bool { return b.height < r.here() })
	r.core = nil
	if r.here() <= head.MaxHeight {
		r.core, _ = core.New(r.voters, r.me, r.here())
	}
}

// teaches: does the core learn a batch by a message, when it hears it? To be asked once of each, ahead of that.
func (r *Replica) teaches(from int, m api.Msg) bool {
	switch {
	case len(m.Data) > core.MaxBatch:
		return false
	case m.Kind == core.Value:
		r.gave[from]++
		return r.gave[from] == 1
	case m.Kind == core.Propose && m.Round >= 0 && m.Round < count.MaxRounds:
		return round.Proposer(r.voters, m.Height, m.Round) == from && !r.core.Offer(m.Round).There
	}
	return false
}

// learn: the core learns a batch. It doesn't hand it out till it is agreed upon; so it stands here too, as it must be kept if it is voted for.
func (r *Replica) learn(batch []byte) {
	if len(r.known) < round.MaxKnown { // more of them it doesn't know
		r.known[core.ID(batch)] = slices.Clone(batch)
	}
}
