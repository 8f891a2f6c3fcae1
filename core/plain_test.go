package core_test

import (
	"bytes"
	"crypto/sha256"
	"slices"
	"testing"

	"scrivener/api"
	"scrivener/core"
	"scrivener/count"
	"scrivener/round"
)

// zero is no batch's ID.
var zero api.ID

// id: a batch's ID, written out.
func id(batch string) api.ID {
	n := len(batch)
	return sha256.Sum256([]byte("batch\x00" + string([]byte{byte(n >> 24), byte(n >> 16), byte(n >> 8), byte(n)}) + batch))
}

// proposer: who proposes in a round.
func proposer(voters, height, n int) int { return (height + n) % voters }

// like: are two messages the same?
func like(a, b api.Msg) bool {
	return a.Kind == b.Kind && a.Who == b.Who && a.Height == b.Height && a.Round == b.Round && a.Valid == b.Valid && a.Num == b.Num &&
		a.ID == b.ID && bytes.Equal(a.Data, b.Data) && slices.Equal(a.IDs, b.IDs) && len(a.List) == 0 && len(b.List) == 0
}

// plain is a core as plain as may be: the chapter's sentences, one by one, over a round.
type plain struct {
	voters, me, height int
	r                  *round.Round
	batches            map[api.ID]string
	gave               map[int]bool
	timers             [][3]int // of each the round, the step, and how many ticks it runs still
	agreed             *string
	acts               []round.Act
}

func newPlain(t *testing.T, voters, me, height int) *plain {
	t.Helper()
	r, e := round.New(voters, me, height)
	if e != api.OK {
		t.Fatal(e)
	}
	return &plain{voters: voters, me: me, height: height, r: r, batches: map[api.ID]string{}, gave: map[int]bool{}}
}

func (p *plain) State() (api.Msg, bool) {
	m := api.Msg{Kind: 4, Who: p.me, Height: p.height}
	last := -1
	for i := range 24 {
		if p.r.Vote(i/2, i%2, p.me) != zero {
			last = i
		}
	}
	for i := 0; i <= last; i++ {
		m.IDs = append(m.IDs, p.r.Vote(i/2, i%2, p.me))
	}
	return m, last >= 0
}

// offer: the message of an offer.
func (p *plain) offer(n int) api.Msg {
	o := p.r.Offer(n)
	return api.Msg{Kind: 3, Who: p.me, Height: p.height, Round: n, Valid: o.Valid, ID: o.ID, Data: []byte(p.batches[o.ID])}
}

// does: an act is to be done with others.
func (p *plain) does(acts []round.Act) { p.acts = append(p.acts, acts...) }

// done: what is sent as the acts are done.
func (p *plain) done() []api.Msg {
	var list []api.Msg
	voted := false
	for _, a := range p.acts {
		switch a.Kind {
		case round.ASend:
			list = append(list, p.offer(a.Round))
		case round.AVote:
			voted = true
		case round.ATimer:
			p.timers = append(p.timers, [3]int{a.Round, a.Num, 3 + 2*a.Round})
		case round.ADone:
			batch := p.batches[a.ID]
			p.agreed = &batch
			p.timers = nil
		}
	}
	p.acts = nil
	if voted {
		m, _ := p.State()
		list = append(list, m)
	}
	return list
}

// learns: a batch is known.
func (p *plain) learns(batch []byte) api.ID {
	p.batches[id(string(batch))] = string(batch)
	p.does(p.r.Know(id(string(batch))))
	return id(string(batch))
}

func (p *plain) Begin(batch []byte) []api.Msg {
	if len(batch) > 4096 {
		return nil
	}
	p.does(p.r.Begin(p.learns(batch)))
	return p.done()
}

func (p *plain) Join() []api.Msg {
	p.does(p.r.Begin(zero))
	return p.done()
}

func (p *plain) Suggest(batch []byte) []api.Msg {
	if len(batch) > 4096 {
		return nil
	}
	p.r.Fresh(p.learns(batch))
	return p.done()
}

func (p *plain) Hear(from int, m api.Msg) []api.Msg {
	if m.Height != p.height || from < 0 || from >= p.voters || from == p.me || len(m.Data) > 4096 {
		return nil
	}
	if m.Kind == 3 && m.Round >= 0 && m.Round <= 11 && from == proposer(p.voters, p.height, m.Round) && !p.r.Offer(m.Round).There {
		p.does(p.r.Offered(m.Round, m.Valid, p.learns(m.Data)))
	}
	for i, id := range m.IDs {
		if m.Kind == 4 && i < 24 && id != zero && p.r.Vote(i/2, i%2, from) == zero {
			p.does(p.r.Voted(i/2, i%2, from, id))
		}
	}
	if m.Kind == 5 && !p.gave[from] {
		p.gave[from] = true
		p.learns(m.Data)
	}
	return p.done()
}

func (p *plain) Tick() []api.Msg {
	var over, left [][3]int
	for _, x := range p.timers {
		if x[2]--; x[2] == 0 {
			over = append(over, x)
		} else {
			left = append(left, x)
		}
	}
	p.timers = left
	for _, x := range over {
		p.does(p.r.Timeout(x[0], x[1]))
	}
	list := p.done()
	if n, _ := p.r.Where(); n >= 0 && p.me == proposer(p.voters, p.height, n) && p.r.Offer(n).There {
		list = append(list, p.offer(n))
	}
	_, best := p.r.Best()
	if batch, known := p.batches[best]; known {
		list = append(list, api.Msg{Kind: 5, Who: p.me, Height: p.height, Data: []byte(batch)})
	}
	if m, some := p.State(); some {
		list = append(list, m)
	}
	return list
}

func (p *plain) Recall(list ...api.Msg) {
	for _, m := range list {
		if m.Height == p.height && m.Kind == 3 {
			p.batches[id(string(m.Data))] = string(m.Data)
			p.r.Remember(id(string(m.Data)))
			p.r.Recall(round.Act{Kind: round.ASend, Round: m.Round, Valid: m.Valid, ID: id(string(m.Data))})
		}
		for i, id := range m.IDs {
			if m.Height == p.height && m.Kind == 4 {
				p.r.Recall(round.Act{Kind: round.AVote, Round: i / 2, Num: i % 2, ID: id})
			}
		}
	}
}

// pair is a core and a plain one, on which the same is called.
type pair struct {
	t    *testing.T
	c    *core.Core
	p    *plain
	said []api.Msg // what outlives a crash: all that was sent
}

func newPair(t *testing.T, voters, me, height int) *pair {
	t.Helper()
	return &pair{t: t, c: fresh(t, voters, me, height), p: newPlain(t, voters, me, height)}
}

// same: do both answer the same, and are they the same behind it?
func (x *pair) same(what string, got, want []api.Msg) []api.Msg {
	x.t.Helper()
	if !slices.EqualFunc(got, want, like) {
		x.t.Fatalf("%s: %v, want %v", what, got, want)
	}
	x.said = append(x.said, got...)
	x.look(what)
	return got
}

// look: do both tell the same?
func (x *pair) look(what string) {
	x.t.Helper()
	got, some := x.c.State()
	if want, any := x.p.State(); some != any || !like(got, want) {
		x.t.Fatalf("%s: State %v, %v, want %v, %v", what, got, some, want, any)
	}
	batch, done := x.c.Done()
	if done != (x.p.agreed != nil) || done && string(batch) != *x.p.agreed || !done && len(batch) > 0 {
		x.t.Fatalf("%s: Done %q, %v", what, batch, done)
	}
	n, step := x.c.Where()
	if m, want := x.p.r.Where(); n != m || step != want {
		x.t.Fatalf("%s: Where %d, %d, want %d, %d", what, n, step, m, want)
	}
	if x.c.Len() != len(x.p.timers) {
		x.t.Fatalf("%s: %d timers, want %d", what, x.c.Len(), len(x.p.timers))
	}
}

func (x *pair) Begin(batch []byte) []api.Msg {
	x.t.Helper()
	return x.same("Begin", x.c.Begin(batch), x.p.Begin(batch))
}

func (x *pair) Join() []api.Msg {
	x.t.Helper()
	return x.same("Join", x.c.Join(), x.p.Join())
}

func (x *pair) Suggest(batch []byte) []api.Msg {
	x.t.Helper()
	return x.same("Suggest", x.c.Suggest(batch), x.p.Suggest(batch))
}

func (x *pair) Hear(from int, m api.Msg) []api.Msg {
	x.t.Helper()
	return x.same("Hear", x.c.Hear(from, m), x.p.Hear(from, m))
}

func (x *pair) Tick() []api.Msg {
	x.t.Helper()
	return x.same("Tick", x.c.Tick(), x.p.Tick())
}

func (x *pair) Recall(list ...api.Msg) {
	x.t.Helper()
	x.c.Recall(list...)
	x.p.Recall(list...)
	x.look("Recall")
}

// round: in which it is.
func (x *pair) round() int {
	n, _ := x.c.Where()
	return n
}

// over: is it over?
func (x *pair) over() bool {
	_, step := x.c.Where()
	return step == round.Over
}

// none is what is voted for by who votes for nothing.
var none = count.Nil()
