package core

import (
	"scrivener/api"
	"scrivener/count"
	"scrivener/round"
)

// State: all one's own votes, as a message; false: there are none.
func (c *Core) State() (api.Msg, bool) {
	m := c.message(State)
	var votes []api.ID
	for n := range count.MaxRounds {
		for _, id := range c.Own(n) {
			votes = append(votes, id)
			if id != (api.ID{}) {
				m.IDs = votes
			}
		}
	}
	return m, len(m.IDs) > 0
}

// do: what acts ask for; what is to be sent.
func (c *Core) do(acts []round.Act) []api.Msg {
	var sent []api.Msg
	voted := false
	for _, a := range acts {
		switch a.Kind {
		case round.ASend:
			sent = append(sent, c.proposal(a.Round))
		case round.AVote:
			voted = true
		case round.ATimer:
			c.Set(a.Round, a.Num)
		case round.ADone:
			c.agreed = a.ID
			c.Clear()
		}
	}
	if m, some := c.State(); voted && some {
		sent = append(sent, m)
	}
	return sent
}

// again: what is sent once more, as it may have been lost.
func (c *Core) again() []api.Msg {
	var sent []api.Msg
	n, _ := c.Where()
	if c.Offer(n).There && round.Proposer(c.voters, c.height, n) == c.me {
		sent = append(sent, c.proposal(n))
	}
	_, best := c.Best()
	if batch, there := c.batch(best); there {
		m := c.message(Value)
		m.Data = batch
		sent = append(sent, m)
	}
	if m, some := c.State(); some {
		sent = append(sent, m)
	}
	return sent
}

// proposal: the message of a round's offer, which is one's own.
func (c *Core) proposal(n int) api.Msg {
	offer := c.Offer(n)
	m := c.message(Propose)
	m.Round, m.Valid, m.ID = n, offer.Valid, offer.ID
	m.Data, _ = c.batch(offer.ID)
	return m
}

// message: one's own at this height, with nothing in it yet.
func (c *Core) message(kind int) api.Msg {
	return api.Msg{Kind: kind, Who: c.me, Height: c.height}
}

// place: the round and the kind of a vote in a State.
func place(i int) (int, int) {
	return i / 2, i % 2
}

// inside: is there such a round?
func inside(n int) bool {
	return n >= 0 && n < count.MaxRounds
}
