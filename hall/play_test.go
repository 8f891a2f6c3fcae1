package hall_test

import (
	"math"
	"math/rand"
	"slices"
	"testing"

	"scrivener/api"
	"scrivener/audit"
	"scrivener/book"
	"scrivener/client"
	"scrivener/core"
	"scrivener/count"
	"scrivener/hall"
	"scrivener/head"
	"scrivener/keys"
	"scrivener/pack"
	"scrivener/post"
	"scrivener/replica"
)

// play is a hall in which things happen by chance.
type play struct {
	*rand.Rand
	t                       *testing.T
	h                       *hall.Hall
	voters, faulty, clients int
	rings                   map[int]*keys.Ring // of the faulty ones
	batches                 [][]byte           // that somebody told, or that a faulty one made
	sent                    map[[2]int][]byte  // the entries that clients handed in, by whose and which one of theirs they are
	crashes                 int
}

func newPlay(t *testing.T, seed int64, voters, faulty, clients int) *play {
	t.Helper()
	s := api.ID{byte(seed), byte(seed >> 8), 5}
	h, e := hall.New(voters, faulty, clients, s)
	if e != api.OK {
		t.Fatal(e)
	}
	p := &play{Rand: rand.New(rand.NewSource(seed)), t: t, h: h, voters: voters, faulty: faulty, clients: clients, rings: map[int]*keys.Ring{}, sent: map[[2]int][]byte{}}
	for i := voters - faulty; i < voters; i++ {
		p.rings[i] = keys.New(h.Seed(i))
	}
	p.batches = [][]byte{nil, []byte("no batch")}
	return p
}

// good: one who isn't faulty.
func (p *play) good() int { return p.Intn(p.voters - p.faulty) }

// keeper: one who keeps the book; fails where there is none.
func keeper(t *testing.T, h *hall.Hall, i int) *replica.Replica {
	t.Helper()
	r, e := h.Replica(i)
	if e != api.OK {
		t.Fatalf("Replica(%d): %v", i, e)
	}
	return r
}

// buyer: a client.
func buyer(t *testing.T, h *hall.Hall, i int) *client.Client {
	t.Helper()
	c, e := h.Client(i)
	if e != api.OK {
		t.Fatalf("Client(%d): %v", i, e)
	}
	return c
}

// submit: a client hands something in.
func (p *play) submit(i int) bool {
	text := []byte{byte(p.Intn(256)), byte(i)}
	num, e := p.h.Submit(i, text)
	if e != api.OK {
		return false
	}
	b, _ := book.Entry(i, num, text)
	p.sent[[2]int{i, num}] = b
	return true
}

// overheard: a message that is on its way; a faulty one may see any.
func (p *play) overheard() ([]byte, api.Msg) {
	n := p.h.Mails().Len()
	if n == 0 {
		return nil, api.Msg{}
	}
	at := p.Intn(n)
	for i, mail := range p.h.Mails().All() {
		if i == at {
			m, _ := pack.Read(mail.Bytes)
			return mail.Bytes, m
		}
	}
	return nil, api.Msg{}
}

// forged: a batch of entries, some of which clients never handed in.
func (p *play) forged() []byte {
	var list [][]byte
	for range p.Intn(3) {
		b, _ := book.Entry(p.Intn(p.clients+1), 1+p.Intn(4), []byte{byte(p.Intn(4)), 'f'})
		list = append(list, b)
	}
	for i := range p.clients {
		for num := 1; num < 4; num++ {
			if b := p.sent[[2]int{i, num}]; b != nil && p.Intn(3) == 0 && len(list) < 8 {
				list = append(list, b)
			}
		}
	}
	b, _ := book.Join(list...)
	return b
}

// lie: a faulty one, whom it writes to, and what.
func (p *play) lie() (int, post.Place, []byte) {
	from := p.voters - 1 - p.Intn(p.faulty)
	raw, m := p.overheard()
	if len(m.Data) > 0 && (m.Kind == core.Propose || m.Kind == core.Value || m.Kind == replica.Decided) && len(p.batches) < 30 {
		p.batches = append(p.batches, m.Data)
	}
	if len(p.batches) < 5 || p.Intn(40) == 0 {
		p.batches = append(p.batches, p.forged())
	}
	to := post.Place{Number: p.good()}
	height, n := 1+p.Intn(8), p.Intn(3)
	if r, e := p.h.Replica(to.Number); e == api.OK && p.Intn(10) > 0 {
		height, n = r.Height()+1, max(r.Round(), 0)+p.Intn(2)
	}
	switch p.Intn(10) {
	case 0:
		if len(raw) > 0 && p.Intn(2) == 0 {
			raw[p.Intn(len(raw))]++
		}
		return from, post.Place{Client: p.Intn(3) == 0, Number: p.Intn(5)}, raw
	case 1, 2:
		m = p.false(from, height)
		to = post.Place{Client: true, Number: p.Intn(p.clients + 1)}
	default:
		m = p.vote(from, height, n)
	}
	b, _ := pack.Write(m)
	return from, to, b
}

// vote: a message of agreement of a faulty one, mostly.
func (p *play) vote(from, height, n int) api.Msg {
	batch := func() []byte { return p.batches[max(p.Intn(len(p.batches)), p.Intn(len(p.batches)))] }
	m := api.Msg{Kind: 3 + p.Intn(6), Who: from, Height: height}
	switch m.Kind {
	case core.State, head.Kind:
		m.Kind = core.State
		for range p.Intn(2*n + 3) {
			id := core.ID(batch())
			m.IDs = append(m.IDs, []api.ID{{}, count.Nil(), id, id, id}[p.Intn(5)])
		}
	default:
		m.Data = batch()
		m.Round, m.Valid = p.Intn(n+1), p.Intn(2)*p.Intn(n+2)
		m.ID = core.ID(m.Data)
	}
	return m
}

// false: what a faulty one tells a client: a head that it signed, a proof, or a link.
func (p *play) false(from, height int) api.Msg {
	ids := make([]api.ID, p.Intn(4))
	for i := range ids {
		ids[i] = api.ID{byte(p.Intn(3))}
	}
	switch p.Intn(3) {
	case 0:
		s, e := head.Sign(p.rings[from], from, book.Head{Height: min(height, 8), Size: p.Intn(5), Root: api.ID{byte(1 + p.Intn(2))}})
		if e != api.OK {
			p.t.Fatal(e)
		}
		return s.Msg()
	case 1:
		for _, key := range [][2]int{{0, 1}, {1, 1}, {0, 2}} {
			if b := p.sent[key]; b != nil && p.Intn(2) == 0 {
				return api.Msg{Kind: replica.Proof, Who: from, Height: height, Num: p.Intn(5), IDs: ids, Data: b}
			}
		}
	}
	return api.Msg{Kind: replica.Link, Who: from, Height: height, Num: p.Intn(8), IDs: ids}
}

// event: something happens; of a thousand deliveries so many are lost, and of a thousand events so many are breaks, and crashes.
func (p *play) event(lost, breaks int) {
	mails := p.h.Mails()
	switch x := p.Intn(1000); {
	case x < 640 && mails.Len() > 0:
		at := p.Intn(mails.Len()) * p.Intn(2)
		if p.Intn(1000) < lost {
			mails.Take(at)
		} else {
			p.h.Deliver(at)
		}
	case x < 660:
		mails.Twice(p.Intn(mails.Len() + 1))
	case x < 690:
		p.submit(p.Intn(p.clients))
	case x < 850:
		p.h.Tick(p.good())
	case x < 870:
		p.h.Retry(p.Intn(p.clients))
	case x < 870+breaks:
		p.h.Break(p.good(), p.Intn(12))
	case x < 870+2*breaks:
		p.crash(p.good())
	case x < 960:
		p.h.Back(p.good())
	}
	for i := range p.voters - p.faulty {
		if r, e := p.h.Replica(i); e == api.OK && r.Halted() && p.Intn(10) == 0 {
			p.crash(i)
		}
	}
}

// crash: one goes down.
func (p *play) crash(i int) {
	if p.h.Crash(i, p.Intn(500)-50) == api.OK {
		p.crashes++
	}
}

// mend: all who aren't faulty are up, with power for all steps.
func (p *play) mend() {
	for i := range p.voters - p.faulty {
		p.h.Break(i, -1)
		if r, e := p.h.Replica(i); e == api.OK && r.Halted() {
			p.crash(i)
		}
		if e := p.h.Back(i); e != api.OK && e != api.ErrTwice {
			p.t.Fatalf("Back(%d): %v", i, e)
		}
	}
}

// list: all entries of a book.
func list(b *book.Book) [][]byte {
	var all [][]byte
	for at := range b.Size() {
		x, _ := b.At(at)
		all = append(all, x)
	}
	return all
}

// heads: all heads of a book.
func heads(b *book.Book) []book.Head {
	var all []book.Head
	for height := 1; height <= b.Height(); height++ {
		x, _ := b.Head(height)
		all = append(all, x)
	}
	return all
}

// hold: P23.4, of those who are up.
func (p *play) hold(what string) {
	p.t.Helper()
	var lists [][][]byte
	var first []book.Head
	for i := range p.voters - p.faulty {
		r, e := p.h.Replica(i)
		if e != api.OK {
			continue
		}
		lists = append(lists, list(r.Book))
		own := heads(r.Book)
		for k := range min(len(own), len(first)) {
			if own[k] != first[k] {
				p.t.Fatalf("%s: %d has another head of the height %d", what, i, k+1)
			}
		}
		if len(own) > len(first) {
			first = own
		}
		for k := range audit.False(lists[len(lists)-1], own...) {
			p.t.Fatalf("%s: %d has a false head %v", what, i, own[k])
		}
	}
	for part := range audit.Parts(lists...) {
		p.t.Fatalf("%s: lists part: %v", what, part)
	}
	all := audit.Longest(lists...)
	if part, found := audit.Twice(all); found {
		p.t.Fatalf("%s: an entry is there twice: %v", what, part)
	}
	if len(lists) < p.voters-p.faulty {
		return // who is down may have more
	}
	for i := range p.clients {
		p.believes(what, i, all, first)
	}
}

// believes: is what a client believes just what the longest book has?
func (p *play) believes(what string, i int, all [][]byte, heads []book.Head) {
	p.t.Helper()
	c := buyer(p.t, p.h, i)
	for height := range 10 {
		if h, ok := c.Accepted(height); ok && (height < 1 || height > len(heads) || heads[height-1] != h) {
			p.t.Fatalf("%s: the client %d accepts %v", what, i, h)
		}
	}
	for num := range 20 {
		if x, ok := c.Taken(num); ok && (x.At >= len(all) || !slices.Equal(all[x.At], p.sent[[2]int{i, num}])) {
			p.t.Fatalf("%s: the client %d believes its entry %d at %v", what, i, num, x)
		}
	}
}

// open: how many entries are under way.
func (p *play) open() int {
	n := 0
	for i := range p.clients {
		for range buyer(p.t, p.h, i).Open() {
			n++
		}
	}
	return n
}

// top: the greatest height and round, and the least height, of those who are up.
func (p *play) top() (int, int, int) {
	high, far, low := 0, -1, math.MaxInt
	for i := range p.voters {
		if r, e := p.h.Replica(i); e == api.OK {
			high, far, low = max(high, r.Height()), max(far, r.Round()), min(low, r.Height())
		}
	}
	return high, far, low
}

// signedBy: a head of a height with so many entries, signed by somebody's key.
func signedBy(t *testing.T, ring *keys.Ring, who, height, size int) api.Msg {
	t.Helper()
	s, e := head.Sign(ring, who, book.Head{Height: height, Size: size, Root: api.ID{9}})
	if e != api.OK {
		t.Fatal(e)
	}
	return s.Msg()
}
