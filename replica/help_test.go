package replica_test

import (
	"bytes"
	"fmt"
	"slices"
	"testing"

	"scrivener/api"
	"scrivener/book"
	"scrivener/core"
	"scrivener/head"
	"scrivener/keys"
	"scrivener/proof"
	"scrivener/replica"
	"scrivener/slab"
)

// none is voted for by who votes for nothing.
var none = api.ID{31: 1}

// zero is no ID.
var zero api.ID

// seed: of the keys of one who keeps the book.
func seed(who int) api.ID { return api.ID{77, byte(who)} }

// disk: an empty slab with much room.
func disk(t *testing.T) *slab.Slab {
	t.Helper()
	d, e := slab.New(1 << 20)
	if e != api.OK {
		t.Fatal(e)
	}
	return d
}

// opened: one who keeps the book, as a slab has it.
func opened(t *testing.T, voters, me int, d *slab.Slab) *replica.Replica {
	t.Helper()
	r, e := replica.Open(voters, me, seed(me), d)
	if e != api.OK || r == nil {
		t.Fatalf("Open(%d, %d): %v", voters, me, e)
	}
	return r
}

// fresh: one of whom nothing was kept yet.
func fresh(t *testing.T, voters, me int) *replica.Replica {
	t.Helper()
	return opened(t, voters, me, disk(t))
}

// entry: the bytes of an entry.
func entry(t *testing.T, who, num int, text string) []byte {
	t.Helper()
	b, e := book.Entry(who, num, []byte(text))
	if e != api.OK {
		t.Fatalf("Entry(%d, %d): %v", who, num, e)
	}
	return b
}

// batch: of entries.
func batch(t *testing.T, list ...[]byte) []byte {
	t.Helper()
	b, e := book.Join(list...)
	if e != api.OK {
		t.Fatal(e)
	}
	return b
}

// state is the message of somebody's votes.
func state(who, height int, ids ...api.ID) api.Msg {
	return api.Msg{Kind: 4, Who: who, Height: height, IDs: ids}
}

// offer is the message of an offer, by four, by who proposes in the round.
func offer(height, n, valid int, batch []byte) api.Msg {
	return api.Msg{Kind: 3, Who: (height + n) % 4, Height: height, Round: n, Valid: valid, ID: core.ID(batch), Data: batch}
}

// value is the message of a batch that somebody has.
func value(who, height int, batch []byte) api.Msg {
	return api.Msg{Kind: 5, Who: who, Height: height, Data: batch}
}

// decided is the message of a batch that was agreed upon.
func decided(who, height int, batch []byte) api.Msg {
	return api.Msg{Kind: 7, Who: who, Height: height, Data: batch}
}

// others: messages for all others.
func others(list ...api.Msg) []replica.Out {
	var outs []replica.Out
	for _, m := range list {
		outs = append(outs, replica.Out{To: -1, Msg: m})
	}
	return outs
}

// like: are two messages the same?
func like(a, b replica.Out) bool {
	x, y := a.Msg, b.Msg
	return a.Client == b.Client && a.To == b.To &&
		x.Kind == y.Kind && x.Who == y.Who && x.Height == y.Height && x.Round == y.Round && x.Valid == y.Valid && x.Num == y.Num && x.ID == y.ID &&
		bytes.Equal(x.Data, y.Data) && slices.Equal(x.IDs, y.IDs) && slices.EqualFunc(x.List, y.List, bytes.Equal)
}

// told: is just this told?
func told(t *testing.T, what string, got []replica.Out, want ...replica.Out) {
	t.Helper()
	if !slices.EqualFunc(got, want, like) {
		t.Errorf("%s: told %s, want %s", what, short(got), short(want))
	}
}

// short: of each message what tells most.
func short(list []replica.Out) string {
	text := ""
	for _, o := range list {
		m := o.Msg
		text += fmt.Sprintf("[client %v to %d: kind %d who %d height %d round %d valid %d num %d id %x, %d bytes, %d IDs]", o.Client, o.To, m.Kind, m.Who, m.Height, m.Round, m.Valid, m.Num, m.ID[:3], len(m.Data), len(m.IDs))
	}
	return text
}

// submits: is an entry taken, and just this told?
func submits(t *testing.T, what string, r *replica.Replica, b []byte, want ...replica.Out) {
	t.Helper()
	l, e := r.Submit(b)
	if e != api.OK {
		t.Errorf("%s: %v", what, e)
	}
	told(t, what, l, want...)
}

// list is a book as plain as may be: its entries, and how many of them each height has.
type list struct {
	entries [][]byte
	sizes   []int
}

// and: with one height more, which has so many entries more.
func (l list) and(more ...[]byte) list {
	l.entries = slices.Concat(l.entries, more)
	l.sizes = append(slices.Clip(l.sizes), len(l.entries))
	return l
}

// leaves: of the entries that a height has.
func (l list) leaves(height int) []api.ID {
	var ids []api.ID
	for _, b := range l.entries[:l.sizes[height-1]] {
		ids = append(ids, leaf(b))
	}
	return ids
}

// answer: what is told of the entry at a place, which was new at a height, by somebody.
func (l list) answer(t *testing.T, me, at, height int) []replica.Out {
	t.Helper()
	m, e := book.Check(l.entries[at])
	if e != api.OK {
		t.Fatal(e)
	}
	leaves := l.leaves(height)
	signed, e := head.Sign(keys.New(seed(me)), me, book.Head{Height: height, Size: len(leaves), Root: root(leaves)})
	if e != api.OK {
		t.Fatal(e)
	}
	way, e := proof.Inclusion(leaves, at)
	if e != api.OK {
		t.Fatal(e)
	}
	return []replica.Out{
		{Client: true, To: m.Who, Msg: signed.Msg()},
		{Client: true, To: m.Who, Msg: api.Msg{Kind: 9, Who: me, Height: height, Num: at, IDs: way, Data: l.entries[at]}},
	}
}

// has: are the entries and the heads just these, and is a round as it should be?
func has(t *testing.T, what string, r *replica.Replica, l list, waiting, n int) {
	t.Helper()
	if r.Height() != len(l.sizes) || r.Size() != len(l.entries) || r.Waiting() != waiting || r.Round() != n {
		t.Fatalf("%s: %d heights, %d entries, %d wait, the round %d; want %d, %d, %d, %d", what, r.Height(), r.Size(), r.Waiting(), r.Round(), len(l.sizes), len(l.entries), waiting, n)
	}
	for i, want := range l.entries {
		if b, e := r.At(i); e != api.OK || !bytes.Equal(b, want) {
			t.Errorf("%s: the entry %d", what, i)
		}
	}
	for i, size := range l.sizes {
		if h, e := r.Head(i + 1); e != api.OK || h != (book.Head{Height: i + 1, Size: size, Root: root(l.leaves(i + 1))}) {
			t.Errorf("%s: the head %d", what, i+1)
		}
	}
}

// decide: so many others say that a batch was agreed upon at the height here, so that it was; what is told.
func decide(t *testing.T, r *replica.Replica, voters, me int, batch []byte) []replica.Out {
	t.Helper()
	height := r.Height() + 1
	for i := range (voters - 1) / 3 {
		who := (me + 1 + i) % voters
		told(t, "one says so", r.Hear(who, decided(who, height, batch)))
	}
	who := (me + voters - 1) % voters
	l := r.Hear(who, decided(who, height, batch))
	if r.Height() != height {
		t.Fatalf("at the height %d: it wasn't agreed upon", height)
	}
	return l
}
