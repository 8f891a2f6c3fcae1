package hall

import (
	"scrivener/api"
	"scrivener/book"
	"scrivener/pack"
	"scrivener/post"
	"scrivener/replica"
)

// Submit: a client hands in another entry; its number.
func (h *Hall) Submit(i int, text []byte) (int, api.Errno) {
	c, e := h.Client(i)
	if e != api.OK {
		return 0, e
	}
	num, b, e := c.Submit(text)
	if e != api.OK {
		return 0, e
	}
	h.handIn(i, b)
	return num, api.OK
}

// Retry: a client hands in once more all that is under way, and asks for links.
func (h *Hall) Retry(i int) api.Errno {
	c, e := h.Client(i)
	if e != api.OK {
		return e
	}
	for _, b := range c.Open() {
		h.handIn(i, b)
	}
	for m := range c.Wants() {
		b, _ := pack.Write(m) // it has small numbers alone
		h.handIn(i, b)
	}
	return api.OK
}

// Tick: the clock of one who keeps the book goes on.
func (h *Hall) Tick(i int) api.Errno {
	r, e := h.Replica(i)
	if e != api.OK {
		return e
	}
	h.tell(i, r.Tick())
	return api.OK
}

// Write: a faulty one writes bytes to somebody.
func (h *Hall) Write(from int, to post.Place, b []byte) api.Errno {
	if !h.lies(from) {
		return api.ErrRange
	}
	return h.mails.Put(post.Mail{From: post.Place{Number: from}, To: to, Bytes: b})
}

// Deliver: a message comes.
func (h *Hall) Deliver(at int) api.Errno {
	m, e := h.mails.Take(at)
	switch {
	case e != api.OK:
		return e
	case m.To.Client:
		return h.toClient(m)
	case m.From.Client:
		return h.fromClient(m)
	}
	return h.among(m)
}

// Calm: so many times all messages come, and then all clocks go on, and all clients hand in once more; how often that was until nobody had anything under way.
func (h *Hall) Calm(turns int) int {
	for turn := range turns {
		for h.mails.Len() > 0 {
			h.Deliver(0) // what nobody takes is gone too
		}
		if h.quiet() {
			return turn
		}
		for i := range h.keepers {
			h.Tick(i)
		}
		for i := range h.clients {
			h.Retry(i)
		}
	}
	return max(turns, 0)
}

// toClient: a message comes to a client.
func (h *Hall) toClient(mail post.Mail) api.Errno {
	c, e := h.Client(mail.To.Number)
	if e != api.OK {
		return e
	}
	m, e := pack.Read(mail.Bytes)
	switch {
	case e != api.OK:
		return e
	case mail.From.Client:
		return api.ErrForm
	}
	return c.Hear(mail.From.Number, m)
}

// fromClient: a message comes from a client to one who keeps the book.
func (h *Hall) fromClient(mail post.Mail) api.Errno {
	me, who := mail.To.Number, mail.From.Number
	r, e := h.Replica(me)
	if e != api.OK {
		return e
	}
	if m, e := pack.Read(mail.Bytes); e == api.OK && m.Kind == replica.Link {
		h.tell(me, r.Linked(who, m))
		return api.OK
	}
	if m, e := book.Check(mail.Bytes); e != api.OK || m.Who != who {
		return api.ErrForm
	}
	outs, e := r.Submit(mail.Bytes)
	h.tell(me, outs)
	return e
}

// among: a message comes to one who keeps the book, from another one.
func (h *Hall) among(mail post.Mail) api.Errno {
	r, e := h.Replica(mail.To.Number)
	if e != api.OK {
		return e
	}
	m, e := pack.Read(mail.Bytes)
	if e != api.OK {
		return e
	}
	h.tell(mail.To.Number, r.Hear(mail.From.Number, m))
	return api.OK
}

// handIn: a client's bytes are on their way to all who keep the book.
func (h *Hall) handIn(who int, b []byte) {
	from := post.Place{Client: true, Number: who}
	for i := range h.keepers {
		h.mails.Put(post.Mail{From: from, To: post.Place{Number: i}, Bytes: b}) // what there is no room for is lost
	}
}

// tell: what one who keeps the book answers is on its way.
func (h *Hall) tell(from int, outs []replica.Out) {
messages:
	for _, o := range outs {
		for _, to := range h.reached(from, o) {
			if h.mails.Send(post.Place{Number: from}, to, o.Msg) != api.OK {
				continue messages // nor could it be sent to the others
			}
		}
	}
}

// reached: whom a message of one who keeps the book is for.
func (h *Hall) reached(from int, o replica.Out) []post.Place {
	if o.Client || o.To >= 0 {
		return []post.Place{{Client: o.Client, Number: o.To}}
	}
	var all []post.Place
	for i := range h.keepers {
		if i != from {
			all = append(all, post.Place{Number: i})
		}
	}
	return all
}

// quiet: has no client anything under way?
func (h *Hall) quiet() bool {
	for _, c := range h.clients {
		for range c.Open() {
			return false
		}
	}
	return true
}
