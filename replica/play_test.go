package replica_test

import (
	"bytes"
	"math/rand"
	"testing"

	"scrivener/api"
	"scrivener/book"
	"scrivener/core"
	"scrivener/replica"
	"scrivener/slab"
)

// letter is a message that is under way.
type letter struct {
	from, to int
	m        api.Msg
}

// ledger is what somebody told, for ever.
type ledger struct {
	votes  map[[2]int]api.ID  // of a height, at a place in a State
	offers map[[2]int]api.Msg // of a height and a round
	heads  map[int]api.Msg    // of a height
}

// play is some who keep the book, of whom some are faulty, by letters that come in any order, more than once, or never.
type play struct {
	*rand.Rand
	t         *testing.T
	voters    int
	good, bad []int // their numbers
	disks     map[int]*slab.Slab
	replicas  map[int]*replica.Replica
	ledgers   map[int]*ledger
	batches   [][]byte       // that were told
	agreed    map[int][]byte // of each height
	mail      []letter
	proved    map[int]map[int]int // of each entry of the client 1 to whom it was proved, and where
	handed    int                 // how many entries the client 1 has
	crashes   int
}

// newPlay: of so many voters, as many as may be of whom are faulty.
func newPlay(t *testing.T, seed int64, voters int) *play {
	p := &play{Rand: rand.New(rand.NewSource(seed)), t: t, voters: voters, agreed: map[int][]byte{}, proved: map[int]map[int]int{}}
	p.disks, p.replicas, p.ledgers = map[int]*slab.Slab{}, map[int]*replica.Replica{}, map[int]*ledger{}
	for i, n := range p.Perm(voters) {
		if i < (voters-1)/3 {
			p.bad = append(p.bad, n)
			continue
		}
		p.good = append(p.good, n)
		p.disks[n] = disk(t)
		p.replicas[n] = opened(t, voters, n, p.disks[n])
		p.ledgers[n] = &ledger{map[[2]int]api.ID{}, map[[2]int]api.Msg{}, map[int]api.Msg{}}
	}
	p.batches = [][]byte{nil, []byte("no batch"), batch(t, entry(t, 3, 1, "of a faulty one"))}
	return p
}

// tell: what somebody tells is held against what they told ahead of it, and is under way to all whom it is for and who aren't faulty.
func (p *play) tell(n int, list []replica.Out) {
	for _, o := range list {
		p.hold(n, o.Msg)
		if o.Client {
			p.answered(n, o)
			continue
		}
		for _, to := range p.good {
			if to != n && (o.To == -1 || o.To == to) {
				p.mail = append(p.mail, letter{n, to, o.Msg})
			}
		}
	}
}

// hold: a vote, an offer and a head are what they were.
func (p *play) hold(n int, m api.Msg) {
	l := p.ledgers[n]
	switch m.Kind {
	case 3:
		if elder, there := l.offers[[2]int{m.Height, m.Round}]; there && !like(replica.Out{Msg: elder}, replica.Out{Msg: m}) || m.ID != core.ID(m.Data) {
			p.t.Fatalf("%d offers otherwise than it did: %v, then %v", n, elder, m)
		}
		l.offers[[2]int{m.Height, m.Round}] = m
		p.batches = append(p.batches, m.Data)
	case 4:
		for i, id := range m.IDs {
			if elder := l.votes[[2]int{m.Height, i}]; elder != zero && elder != id {
				p.t.Fatalf("%d votes otherwise than it did, at the height %d, the place %d", n, m.Height, i)
			}
			l.votes[[2]int{m.Height, i}] = id
		}
		for at := range l.votes {
			if at[0] == m.Height && at[1] >= len(m.IDs) {
				p.t.Fatalf("%d told more votes than now at the height %d", n, m.Height)
			}
		}
	case 6:
		if elder, there := l.heads[m.Height]; there && !like(replica.Out{Msg: elder}, replica.Out{Msg: m}) {
			p.t.Fatalf("%d signs two heads of the height %d", n, m.Height)
		}
		l.heads[m.Height] = m
	case 7:
		if elder, there := p.agreed[m.Height]; there && !bytes.Equal(elder, m.Data) {
			p.t.Fatalf("%d says that something else was agreed upon at the height %d", n, m.Height)
		}
		p.agreed[m.Height] = m.Data
	}
}

// answered: somebody proved an entry.
func (p *play) answered(n int, o replica.Out) {
	if o.Msg.Kind != 9 || o.To != 1 {
		return
	}
	m, e := book.Check(o.Msg.Data)
	if e != api.OK {
		p.t.Fatal(e)
	}
	if p.proved[m.Num] == nil {
		p.proved[m.Num] = map[int]int{}
	}
	p.proved[m.Num][n] = o.Msg.Num
}

// hand: the client 1 hands in an entry of theirs, to some.
func (p *play) hand(num int, all bool) {
	for _, n := range p.good {
		if all || p.Intn(3) > 0 {
			l, _ := p.replicas[n].Submit(entry(p.t, 1, num, "x"))
			p.tell(n, l)
		}
	}
}

// crash: somebody is opened anew, and has what they had, or one height more.
func (p *play) crash(n int) {
	elder := p.replicas[n]
	p.replicas[n] = again(p.t, p.voters, n, p.disks[n], p.Intn(300)-20)
	p.crashes++
	if h := p.replicas[n].Height(); h != elder.Height() && (h != elder.Height()+1 || !elder.Halted()) {
		p.t.Fatalf("%d had the height %d, and has %d", n, elder.Height(), h)
	}
	p.begins(elder.Book, p.replicas[n].Book)
}

// begins: does a book begin with another one?
func (p *play) begins(first, second *book.Book) {
	for height := 1; height <= first.Height(); height++ {
		a, _ := first.Head(height)
		if b, e := second.Head(height); e != api.OK || a != b {
			p.t.Fatalf("at the height %d: %v, %v, %v", height, a, b, e)
		}
	}
	for at := range first.Size() {
		a, _ := first.At(at)
		if b, e := second.At(at); e != api.OK || !bytes.Equal(a, b) {
			p.t.Fatalf("at the place %d: %q, %q", at, a, b)
		}
	}
}

// lie: a faulty one tells somebody anything.
func (p *play) lie() {
	from, to := p.bad[p.Intn(len(p.bad))], p.good[p.Intn(len(p.good))]
	r := p.replicas[to]
	n := max(r.Round(), 0) + p.Intn(2)
	m := api.Msg{Kind: 3 + p.Intn(5), Who: from, Height: r.Height() + 1, Round: p.Intn(n + 1), Valid: p.Intn(2) * p.Intn(n+2)}
	if p.Intn(20) == 0 {
		m.Height = p.Intn(10)
	}
	switch m.Kind {
	case core.State:
		for range p.Intn(2*n + 3) {
			id := core.ID(p.batches[p.Intn(len(p.batches))])
			m.IDs = append(m.IDs, []api.ID{zero, none, id, id}[p.Intn(4)])
		}
	case 6:
		m.Kind = 8
	default:
		m.Data = p.batches[max(p.Intn(len(p.batches)), p.Intn(len(p.batches)))]
	}
	p.tell(to, r.Hear(from, m))
}

// next: something happens; of a hundred letters so many are lost, and of a thousand times so often somebody's power goes.
func (p *play) next(lost, breaks int) {
	n := p.good[p.Intn(len(p.good))]
	r := p.replicas[n]
	switch x := p.Intn(1000); {
	case x < 780 && len(p.mail) > 0:
		i := p.Intn(len(p.mail))
		l := p.mail[i]
		if p.Intn(6) > 0 {
			p.mail[i] = p.mail[len(p.mail)-1]
			p.mail = p.mail[:len(p.mail)-1]
		}
		if p.Intn(100) >= lost {
			p.tell(l.to, p.replicas[l.to].Hear(l.from, l.m))
		}
	case x < 850:
		p.lie()
	case x < 910:
		p.tell(n, r.Tick())
	case x < 930:
		p.handed = min(p.handed+1, 9)
		p.hand(p.handed, false)
	case x < 950 && p.handed > 0:
		p.hand(1+p.Intn(p.handed), false)
	case x < 950+breaks:
		p.disks[n].Break(p.Intn(8))
	case r.Halted() || p.Intn(50) < breaks:
		p.crash(n)
	}
	if len(p.mail) > 150 { // what is old is lost
		p.mail = p.mail[len(p.mail)-150:]
	}
}

func TestPlays(t *testing.T) { // P19.1 to P19.5 in all calls: of the books of any two one begins with the other one, and nobody tells otherwise than they did
	heights, crashes, far, most := 0, 0, 0, 0
	for seed := range int64(90) {
		p := newPlay(t, seed, []int{4, 4, 7}[seed%3])
		for range 900 * p.voters {
			p.next(int(seed)%5*8, int(seed)%4*2)
			far = max(far, p.replicas[p.good[0]].Round())
		}
		for _, a := range p.good {
			for _, b := range p.good {
				if x, y := p.replicas[a].Book, p.replicas[b].Book; x.Height() <= y.Height() {
					p.begins(x, y)
				}
			}
			most = max(most, p.replicas[a].Height())
			heights += p.replicas[a].Height()
		}
		crashes += p.crashes
	}
	t.Logf("%d heights, at most %d, %d crashes, the round %d", heights, most, crashes, far)
	if heights < 500 || most < 6 || crashes < 500 || far < 3 {
		t.Error("so few try nothing")
	}
}

// all: all letters come, by their order or by none.
func (p *play) all() {
	for len(p.mail) > 0 {
		i := p.Intn(len(p.mail)) * p.Intn(2)
		l := p.mail[i]
		p.mail = append(p.mail[:i:i], p.mail[i+1:]...)
		p.tell(l.to, p.replicas[l.to].Hear(l.from, l.m))
	}
}

// turn: all clocks go on, and all letters come.
func (p *play) turn() {
	for _, n := range p.good {
		p.tell(n, p.replicas[n].Tick())
	}
	p.all()
}

// calm: how many turns it takes, without any loss, till all have proved all entries.
func (p *play) calm() int {
	for turns := 0; ; turns++ {
		p.all()
		some := false
		for num := 1; num <= p.handed; num++ {
			some = some || len(p.proved[num]) < len(p.good)
		}
		if !some {
			return turns
		}
		if turns > 200 {
			p.t.Fatalf("behind %d turns: %v of %d", turns, p.proved, p.handed)
		}
		p.turn()
		for num := 1; num <= p.handed; num++ {
			p.hand(num, true)
		}
	}
}

func TestAllIsTaken(t *testing.T) { // without loss, and with the faulty ones silent
	longest := 0
	for seed := range int64(60) {
		p := newPlay(t, seed, []int{4, 7}[seed%2])
		for p.handed < 8 {
			p.handed++
			p.hand(p.handed, p.Intn(2) == 0)
			for range p.Intn(4) {
				p.turn()
			}
			if p.handed%3 == 0 {
				longest = max(longest, p.calm())
			}
		}
		longest = max(longest, p.calm())
		for num, places := range p.proved {
			for _, n := range p.good {
				if at, e := p.replicas[n].Find(1, num); e != api.OK || at != places[n] || at != places[p.good[0]] {
					t.Errorf("seed %d: the entry %d is at %d, and was proved at %v", seed, num, at, places)
				}
			}
		}
	}
	t.Logf("%d turns", longest)
}

func TestWhoWasDown(t *testing.T) { // has all behind one entry more: it asks, height by height
	for seed := range int64(40) {
		p := newPlay(t, seed, 4)
		p.good, p.bad = append(p.good, p.bad...), nil
		who := p.good[3]
		p.disks[who] = disk(t)
		p.replicas[who], p.ledgers[who] = opened(t, 4, who, p.disks[who]), &ledger{map[[2]int]api.ID{}, map[[2]int]api.Msg{}, map[int]api.Msg{}}
		down := func() { // nothing comes to it
			p.good = p.good[:3]
		}
		p.handed = int(seed) % 3
		p.hand(1, true)
		p.calm()
		down()
		for p.handed < int(seed)%7+1 {
			p.handed++
			p.hand(p.handed, true)
			p.calm()
		}
		p.good = append(p.good, who)
		p.crash(who)
		p.handed++
		p.hand(p.handed, true)
		for range 41 {
			p.turn()
		}
		for _, n := range p.good {
			p.begins(p.replicas[n].Book, p.replicas[who].Book)
		}
		if p.replicas[who].Size() == 0 || p.replicas[who].Waiting() > 0 {
			t.Errorf("seed %d: %d entries, %d wait", seed, p.replicas[who].Size(), p.replicas[who].Waiting())
		}
	}
}
