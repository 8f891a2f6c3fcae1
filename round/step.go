package round

import (
	"scrivener/api"
	"scrivener/count"
)

// settle does what is due, step by step, till nothing is; behind acts.
func (r *Round) settle(acts []Act) []Act {
	for r.step != Over { // as it is ahead of the first round
		more, fits := r.next()
		if !fits {
			return append(acts, r.wait()...)
		}
		acts = append(acts, more...)
	}
	return acts
}

// next does the first thing that is due; false: nothing is.
func (r *Round) next() ([]Act, bool) {
	if round, id, found := r.agreed(); found {
		r.step = Over
		return []Act{{Kind: ADone, Round: round, ID: id}}, true
	}
	if round, found := r.votes.Ahead(r.round); found {
		return r.begin(round), true
	}
	if id, found := r.choice(); found {
		return r.cast(count.Prevote, id), true
	}
	if id, found := r.sure(r.round, count.Prevote); found && r.step != Propose && r.best.round != r.round+1 {
		return r.better(id), true
	}
	if r.step == Vote && r.votes.For(r.round, count.Prevote, count.Nil()) >= count.Need(r.voters) {
		return r.cast(count.Precommit, count.Nil()), true
	}
	return nil, false
}

// agreed: the first round in which something is sure by late votes, and what; false: there is none.
func (r *Round) agreed() (int, api.ID, bool) {
	for round := range count.MaxRounds {
		if id, found := r.sure(round, count.Precommit); found {
			return round, id, true
		}
	}
	return 0, api.ID{}, false
}

// sure: what is sure in a round by votes of a kind, and there as a whole; false: nothing is.
func (r *Round) sure(round, kind int) (api.ID, bool) {
	id, found := r.votes.Sure(round, kind)
	if !found || id == count.Nil() || !r.knows(id) {
		return api.ID{}, false
	}
	return id, true
}

// begin: a round begins.
func (r *Round) begin(round int) []Act {
	if !inside(round) {
		r.step = Over
		return nil
	}
	r.round, r.step = round, Propose
	switch what := r.proposal(); {
	case Proposer(r.voters, r.height, round) != r.me:
		return r.timer(Propose)
	case r.offers[round].There:
		return nil
	case !what.There:
		return r.timer(Propose)
	default:
		r.offers[round] = what
		return []Act{{Kind: ASend, Round: round, Valid: what.Valid, ID: what.ID}}
	}
}

// proposal: what one has to propose.
func (r *Round) proposal() Offer {
	if r.best.round > 0 {
		return Offer{There: true, Valid: r.best.round, ID: r.best.id}
	}
	return Offer{There: r.fresh != api.ID{}, ID: r.fresh}
}

// choice: for what to vote early, of the round's offer and nothing; false: that can't be told yet.
func (r *Round) choice() (api.ID, bool) {
	if r.step != Propose {
		return api.ID{}, false
	}
	switch what := r.offers[r.round]; {
	case !what.There, !r.knows(what.ID):
		return api.ID{}, false
	case what.Valid > r.round:
		return count.Nil(), true
	case what.Valid > 0 && !r.backed(what):
		return api.ID{}, false
	case r.lock.round > what.Valid && r.lock.id != what.ID: // with the Valid 0: any lock
		return count.Nil(), true
	default:
		return what.ID, true
	}
}

// backed: was an offer voted for as it says?
func (r *Round) backed(what Offer) bool {
	id, found := r.sure(what.Valid-1, count.Prevote)
	return found && id == what.ID
}

// better: what is sure by early votes of the round; who hasn't voted late yet does so, and holds to it.
func (r *Round) better(id api.ID) []Act {
	r.best = mark{r.round + 1, id}
	if r.step != Vote {
		return nil
	}
	r.lock = r.best
	return r.cast(count.Precommit, id)
}

// cast: one's vote, if there is none yet.
func (r *Round) cast(kind int, id api.ID) []Act {
	r.step = behind(kind) // also if one voted before a crash: else this would be due for ever
	if r.votes.Put(r.round, kind, r.me, id) != api.OK {
		return nil
	}
	return []Act{{Kind: AVote, Round: r.round, Num: kind, ID: id}}
}

// behind: the step behind a vote of a kind.
func behind(kind int) int {
	if kind == count.Prevote {
		return Vote
	}
	return Commit
}

// wait: timers for what so many voted that one needn't wait for all.
func (r *Round) wait() []Act {
	var acts []Act
	need := count.Need(r.voters)
	if r.step == Vote && r.votes.All(r.round, count.Prevote) >= need {
		acts = append(acts, r.timer(Vote)...)
	}
	if r.votes.All(r.round, count.Precommit) >= need {
		acts = append(acts, r.timer(Commit)...)
	}
	return acts
}

// timer: a timer of a step of the round, if there was none.
func (r *Round) timer(step int) []Act {
	if r.timers[r.round][step] {
		return nil
	}
	r.timers[r.round][step] = true
	return []Act{{Kind: ATimer, Round: r.round, Num: step}}
}
