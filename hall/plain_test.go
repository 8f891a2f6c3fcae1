package hall_test

import (
	"bytes"
	"crypto/sha256"
	"fmt"
	"maps"
	"slices"
	"testing"

	"scrivener/api"
	"scrivener/book"
	"scrivener/client"
	"scrivener/hall"
	"scrivener/pack"
	"scrivener/post"
	"scrivener/replica"
	"scrivener/slab"
)

// plain is a hall as plain as may be: the chapter's sentences, one by one.
type plain struct {
	voters, faulty int
	seed           api.ID
	disks          []*slab.Slab
	up             map[int]*replica.Replica
	clients        []*client.Client
	mails          []post.Mail
}

// seedOf: of one who keeps the book, written out: the purpose, a nought, and each part behind four bytes of its length.
func seedOf(seed api.ID, i int) api.ID {
	text := append([]byte("seed\x00\x00\x00\x00\x20"), seed[:]...)
	return sha256.Sum256(append(text, 0, 0, 0, 1, byte(i)))
}

func newPlain(t *testing.T, voters, faulty, clients int, seed api.ID) *plain {
	t.Helper()
	p := &plain{voters: voters, faulty: faulty, seed: seed, up: map[int]*replica.Replica{}}
	var publics []api.ID
	for i := range voters {
		d, e := slab.New(262144)
		if e != api.OK {
			t.Fatal(e)
		}
		p.disks = append(p.disks, d)
		r, e := replica.Open(voters, i, seedOf(seed, i), d)
		if e != api.OK {
			t.Fatal(e)
		}
		publics = append(publics, r.Public())
		if i < voters-faulty {
			p.up[i] = r
		}
	}
	for i := range clients {
		c, e := client.New(i, publics...)
		if e != api.OK {
			t.Fatal(e)
		}
		p.clients = append(p.clients, c)
	}
	return p
}

// replicaError: of Replica.
func (p *plain) replicaError(i int) api.Errno {
	if i < 0 || i >= p.voters {
		return api.ErrRange
	}
	if p.up[i] == nil {
		return api.ErrDown
	}
	return api.OK
}

func (p *plain) put(from, to post.Place, b []byte) api.Errno {
	if len(p.mails) >= 600 {
		return api.ErrFull
	}
	p.mails = append(p.mails, post.Mail{From: from, To: to, Bytes: slices.Clone(b)})
	return api.OK
}

// broadcast: from a client to all who keep the book.
func (p *plain) broadcast(who int, b []byte) {
	for i := range p.voters {
		p.put(post.Place{Client: true, Number: who}, post.Place{Number: i}, b)
	}
}

// answers: of one who keeps the book, sent.
func (p *plain) answers(from int, list []replica.Out) {
	for _, o := range list {
		b, e := pack.Write(o.Msg)
		if e != api.OK {
			continue
		}
		if o.Client || o.To != -1 {
			p.put(post.Place{Number: from}, post.Place{Client: o.Client, Number: o.To}, b)
			continue
		}
		for i := range p.voters {
			if i != from {
				p.put(post.Place{Number: from}, post.Place{Number: i}, b)
			}
		}
	}
}

func (p *plain) Submit(i int, text []byte) (int, api.Errno) {
	if i < 0 || i >= len(p.clients) {
		return 0, api.ErrRange
	}
	num, b, e := p.clients[i].Submit(text)
	if e != api.OK {
		return 0, e
	}
	p.broadcast(i, b)
	return num, api.OK
}

func (p *plain) Retry(i int) api.Errno {
	if i < 0 || i >= len(p.clients) {
		return api.ErrRange
	}
	for _, b := range p.clients[i].Open() {
		p.broadcast(i, b)
	}
	for m := range p.clients[i].Wants() {
		b, _ := pack.Write(m)
		p.broadcast(i, b)
	}
	return api.OK
}

func (p *plain) Tick(i int) api.Errno {
	if e := p.replicaError(i); e != api.OK {
		return e
	}
	p.answers(i, p.up[i].Tick())
	return api.OK
}

func (p *plain) Take(at int) (post.Mail, api.Errno) {
	if at < 0 || at >= len(p.mails) {
		return post.Mail{}, api.ErrMissing
	}
	m := p.mails[at]
	p.mails = append(p.mails[:at:at], p.mails[at+1:]...)
	return m, api.OK
}

func (p *plain) Deliver(at int) api.Errno {
	mail, e := p.Take(at)
	if e != api.OK {
		return e
	}
	m, unread := pack.Read(mail.Bytes)
	from, to := mail.From, mail.To
	if to.Client {
		if to.Number < 0 || to.Number >= len(p.clients) {
			return api.ErrRange
		}
		if unread != api.OK {
			return unread
		}
		if from.Client {
			return api.ErrForm
		}
		return p.clients[to.Number].Hear(from.Number, m)
	}
	if e := p.replicaError(to.Number); e != api.OK {
		return e
	}
	r := p.up[to.Number]
	if !from.Client {
		if unread != api.OK {
			return unread
		}
		p.answers(to.Number, r.Hear(from.Number, m))
		return api.OK
	}
	if unread == api.OK && m.Kind == 10 {
		p.answers(to.Number, r.Linked(from.Number, m))
		return api.OK
	}
	if x, e := book.Check(mail.Bytes); e != api.OK || x.Who != from.Number {
		return api.ErrForm
	}
	list, e := r.Submit(mail.Bytes)
	p.answers(to.Number, list)
	return e
}

func (p *plain) Write(from int, to post.Place, b []byte) api.Errno {
	if from < p.voters-p.faulty || from >= p.voters {
		return api.ErrRange
	}
	return p.put(post.Place{Number: from}, to, b)
}

func (p *plain) Break(i, steps int) api.Errno {
	if i < 0 || i >= p.voters {
		return api.ErrRange
	}
	p.disks[i].Break(steps)
	return api.OK
}

func (p *plain) Crash(i, keep int) api.Errno {
	if e := p.replicaError(i); e != api.OK {
		return e
	}
	delete(p.up, i)
	p.disks[i].Crash(keep)
	return api.OK
}

func (p *plain) Back(i int) api.Errno {
	if p.up[i] != nil {
		return api.ErrTwice
	}
	if i < 0 || i >= p.voters-p.faulty {
		return api.ErrRange
	}
	r, e := replica.Open(p.voters, i, seedOf(p.seed, i), p.disks[i])
	if e == api.OK {
		p.up[i] = r
	}
	return e
}

func (p *plain) Calm(turns int) int {
	for turn := 0; turn < turns; turn++ {
		for len(p.mails) > 0 {
			p.Deliver(0)
		}
		open := 0
		for _, c := range p.clients {
			open += len(maps.Collect(c.Open()))
		}
		if open == 0 {
			return turn
		}
		for i := range p.voters {
			p.Tick(i)
		}
		for i := range p.clients {
			p.Retry(i)
		}
	}
	return max(turns, 0)
}

// seen: what can be told of one who keeps the book.
func seen(r *replica.Replica) string {
	h, _ := r.Head(r.Height())
	return fmt.Sprint(r.Height(), r.Size(), r.Waiting(), r.Round(), r.Halted(), h.Root)
}

// known: what can be told of a client.
func known(c *client.Client) string {
	text := ""
	for num, b := range c.Open() {
		text += fmt.Sprint(num, b)
	}
	for height := range 9 {
		h, ok := c.Accepted(height)
		text += fmt.Sprint(h, ok)
		for first := range height {
			text += fmt.Sprint(c.Linked(first, height))
		}
	}
	for num := range 9 {
		x, ok := c.Taken(num)
		text += fmt.Sprint(x, ok)
	}
	return text
}

// same: is a hall as the plain one?
func same(t *testing.T, what string, h *hall.Hall, p *plain) {
	t.Helper()
	if h.Mails().Len() != len(p.mails) {
		t.Fatalf("%s: %d messages are on their way, want %d", what, h.Mails().Len(), len(p.mails))
	}
	for i, m := range h.Mails().All() {
		if w := p.mails[i]; m.From != w.From || m.To != w.To || !bytes.Equal(m.Bytes, w.Bytes) {
			t.Fatalf("%s: the message %d: %v, want %v", what, i, m, w)
		}
	}
	for i := range p.voters {
		r, e := h.Replica(i)
		if e != p.replicaError(i) || (r == nil) != (e != api.OK) {
			t.Fatalf("%s: Replica(%d): %v", what, i, e)
		}
		if e == api.OK && seen(r) != seen(p.up[i]) {
			t.Fatalf("%s: %d: %s, want %s", what, i, seen(r), seen(p.up[i]))
		}
	}
	for i := range p.clients {
		if c, e := h.Client(i); e != api.OK || known(c) != known(p.clients[i]) {
			t.Fatalf("%s: the client %d: %v", what, i, e)
		}
	}
}
