package hall_test

import (
	"bytes"
	"fmt"
	"math"
	"math/rand"
	"slices"
	"testing"

	"scrivener/api"
	"scrivener/book"
	"scrivener/client"
	"scrivener/core"
	"scrivener/hall"
	"scrivener/keys"
	"scrivener/pack"
	"scrivener/post"
	"scrivener/replica"
)

// odd is numbers that aren't any of somebody.
var odd = []int{math.MinInt, -1, 7, 8, 256, math.MaxInt}

// fresh: a hall in which nothing happened yet, and a plain one.
func fresh(t *testing.T, voters, faulty, clients int) (*hall.Hall, *plain) {
	t.Helper()
	seed := api.ID{byte(voters), byte(faulty), 31: byte(clients)}
	h, e := hall.New(voters, faulty, clients, seed)
	if e != api.OK {
		t.Fatalf("New(%d, %d, %d): %v", voters, faulty, clients, e)
	}
	return h, newPlain(t, voters, faulty, clients, seed)
}

// at and of: the places of one who keeps the book, and of a client.
func at(i int) post.Place { return post.Place{Number: i} }
func of(i int) post.Place { return post.Place{Client: true, Number: i} }

// is: is an answer as it should be?
func is(t *testing.T, what string, got, want api.Errno) {
	t.Helper()
	if got != want {
		t.Errorf("%s: %v, want %v", what, got, want)
	}
}

// written: a message's bytes.
func written(t *testing.T, m api.Msg) []byte {
	t.Helper()
	b, e := pack.Write(m)
	if e != api.OK {
		t.Fatal(e)
	}
	return b
}

// entry: an entry's bytes.
func entry(t *testing.T, who, num int, text string) []byte {
	t.Helper()
	b, e := book.Entry(who, num, []byte(text))
	if e != api.OK {
		t.Fatal(e)
	}
	return b
}

// put: bytes are on their way in both.
func put(t *testing.T, h *hall.Hall, p *plain, from, to post.Place, b []byte) {
	t.Helper()
	is(t, "Put", h.Mails().Put(post.Mail{From: from, To: to, Bytes: b}), p.put(from, to, b))
}

func TestNew(t *testing.T) { // P23.1
	if hall.MaxClients != 4 || hall.Room != 262144 {
		t.Error("the limits")
	}
	faults := map[int]int{1: 0, 4: 1, 7: 2}
	for _, voters := range append([]int{0, 1, 2, 3, 4, 5, 6, 10, 13}, odd...) {
		for _, faulty := range append([]int{0, 1, 2, 3, 4}, odd...) {
			for _, clients := range append([]int{0, 1, 3, 4, 5}, odd...) {
				most, good := faults[voters]
				good = good && faulty >= 0 && faulty <= most && clients >= 0 && clients <= 4
				h, e := hall.New(voters, faulty, clients, api.ID{})
				if good && (h == nil || e != api.OK) || !good && (h != nil || e != api.ErrRange) {
					t.Errorf("New(%d, %d, %d): %v", voters, faulty, clients, e)
				}
				if good {
					if a, b, c := h.Len(); a != voters || b != faulty || c != clients || h.Mails().Len() != 0 {
						t.Errorf("Len: %d, %d, %d", a, b, c)
					}
				}
			}
		}
	}
}

func TestWhoIsThere(t *testing.T) { // P23.1, P23.2
	for _, n := range [][3]int{{1, 0, 0}, {4, 0, 4}, {4, 1, 1}, {7, 2, 3}} {
		h, p := fresh(t, n[0], n[1], n[2])
		same(t, "a new one", h, p)
		for i := range n[0] {
			if h.Seed(i) != seedOf(p.seed, i) || h.Public(i) != keys.New(seedOf(p.seed, i)).Public() {
				t.Errorf("the keys of %d", i)
			}
			r, e := h.Replica(i)
			if i >= n[0]-n[1] {
				if r != nil || e != api.ErrDown {
					t.Errorf("the faulty one %d: %v", i, e)
				}
			} else if r == nil || e != api.OK || r.Public() != h.Public(i) {
				t.Errorf("Replica(%d): %v", i, e)
			}
		}
		for _, i := range append([]int{n[0]}, odd...) {
			if i >= 0 && i < n[0] {
				continue
			}
			if r, e := h.Replica(i); r != nil || e != api.ErrRange {
				t.Errorf("Replica(%d): %v", i, e)
			}
			if h.Public(i) != (api.ID{}) || h.Seed(i) != seedOf(p.seed, i) {
				t.Errorf("the keys of %d", i)
			}
		}
		for _, i := range append([]int{n[2]}, odd...) {
			if c, e := h.Client(i); c != nil || e != api.ErrRange {
				t.Errorf("Client(%d): %v", i, e)
			}
		}
	}
}

func TestClientsKnowAllKeys(t *testing.T) { // P23.1: also those of the faulty ones
	h, _ := fresh(t, 4, 1, 2)
	for i := range 2 {
		c := buyer(t, h, i)
		for who := range 4 {
			ring := keys.New(h.Seed(who))
			is(t, "a head", c.Hear(who, signedBy(t, ring, who, 1, 5)), api.OK)
		}
		if head, ok := c.Accepted(1); !ok || head.Size != 5 {
			t.Errorf("the client %d accepts %v", i, head)
		}
		num, b, e := c.Submit(nil)
		if m, _ := book.Check(b); num != 1 || e != api.OK || m.Who != i {
			t.Errorf("the client %d: %v", i, e)
		}
	}
}

func TestRoom(t *testing.T) { // P23.1: 2^18 bytes each, and with no room more it is halted
	h, _ := fresh(t, 4, 1, 0)
	r := keeper(t, h, 0)
	told := 0
	for height := 1; !r.Halted() && height <= 8; height++ {
		for n := range 12 {
			for who := 1; who < 4 && !r.Halted(); who++ {
				told += 4096
				r.Hear(who, api.Msg{Kind: core.Propose, Height: height, Round: n, Data: bytes.Repeat([]byte{byte(n)}, 4096)})
				r.Hear(1, api.Msg{Kind: core.State, Height: height, IDs: append(make([]api.ID, 2*n), core.ID(bytes.Repeat([]byte{byte(n)}, 4096)))})
				r.Hear(2, api.Msg{Kind: core.State, Height: height, IDs: append(make([]api.ID, 2*n), core.ID(bytes.Repeat([]byte{byte(n)}, 4096)))})
			}
		}
		big := bytes.Repeat([]byte{byte(height)}, 100000)
		r.Hear(1, api.Msg{Kind: replica.Decided, Height: height, Data: big})
		r.Hear(2, api.Msg{Kind: replica.Decided, Height: height, Data: big})
	}
	if !r.Halted() || r.Height() != 2 {
		t.Errorf("halted: %v, at the height %d", r.Halted(), r.Height())
	}
}

func TestAlone(t *testing.T) { // the chapter's example
	h, _ := fresh(t, 1, 0, 1)
	if num, e := h.Submit(0, []byte("x")); num != 1 || e != api.OK {
		t.Fatal(e)
	}
	if n := h.Calm(5); n != 0 {
		t.Errorf("Calm: %d turns", n)
	}
	if x, ok := buyer(t, h, 0).Taken(1); !ok || x != (client.Taken{Height: 1}) {
		t.Errorf("Taken: %v, %v", x, ok)
	}
	if h.Mails().Len() != 0 {
		t.Error("something is on its way")
	}
}

func TestSubmit(t *testing.T) { // P23.2: its bytes go to all, also to who is faulty or down, and its errors
	h, p := fresh(t, 4, 1, 2)
	both := func(what string, i int, text []byte, num int, want api.Errno) {
		t.Helper()
		n, e := h.Submit(i, text)
		m, f := p.Submit(i, text)
		if n != num || e != want || m != num || f != want {
			t.Errorf("%s: %d, %v, the plain one %d, %v", what, n, e, m, f)
		}
		same(t, what, h, p)
	}
	is(t, "Crash", h.Crash(1, 0), p.Crash(1, 0))
	for _, i := range append([]int{2, 3}, odd...) {
		both("of nobody", i, nil, 0, api.ErrRange)
		both("of nobody, too long", i, make([]byte, 257), 0, api.ErrRange)
	}
	both("too long", 1, make([]byte, 257), 0, api.ErrLong)
	for num := 1; num <= 3; num++ {
		both("an entry", 1, []byte("x"), num, api.OK)
	}
	both("one too many", 1, nil, 0, api.ErrQuota)
	both("of the other one", 0, nil, 1, api.OK)
	if h.Mails().Len() != 16 {
		t.Errorf("%d messages", h.Mails().Len())
	}
}

func TestRetry(t *testing.T) { // P23.2: what is under way, to all, and then what it wants
	h, p := fresh(t, 4, 1, 3)
	for _, i := range append([]int{3, 4}, odd...) {
		is(t, "of nobody", h.Retry(i), api.ErrRange)
	}
	is(t, "of nothing", h.Retry(0), p.Retry(0))
	same(t, "of nothing", h, p)
	for num := range 3 { // three heights
		h.Submit(0, []byte{byte(num)})
		p.Submit(0, []byte{byte(num)})
		if a, b := h.Calm(50), p.Calm(50); a != b || a == 50 {
			t.Fatalf("Calm: %d, %d", a, b)
		}
	}
	for range 2 {
		h.Submit(0, []byte("more"))
		p.Submit(0, []byte("more"))
	}
	for h.Mails().Len() > 0 {
		h.Mails().Take(0)
		p.Take(0)
	}
	is(t, "Retry", h.Retry(0), p.Retry(0))
	same(t, "Retry", h, p)
	if high := keeper(t, h, 0).Height(); high != 3 || h.Mails().Len() != 4*(2+2) {
		t.Errorf("at the height %d, %d messages are on their way", high, h.Mails().Len())
	}
	for h.Mails().Len() > 0 {
		is(t, "Deliver", h.Deliver(0), p.Deliver(0))
	}
	if c := buyer(t, h, 0); !c.Linked(1, 3) || !c.Linked(2, 3) {
		t.Error("nothing is linked")
	}
}

func TestTick(t *testing.T) { // P23.2: to all others
	h, p := fresh(t, 4, 1, 1)
	for _, i := range append([]int{4}, odd...) {
		is(t, "of nobody", h.Tick(i), api.ErrRange)
	}
	is(t, "of a faulty one", h.Tick(3), api.ErrDown)
	is(t, "Crash", h.Crash(2, 0), p.Crash(2, 0))
	is(t, "of one who is down", h.Tick(2), api.ErrDown)
	h.Submit(0, nil)
	p.Submit(0, nil)
	for range 5 {
		is(t, "Deliver", h.Deliver(0), p.Deliver(0))
	}
	for i := range 4 {
		is(t, "Tick", h.Tick(i), p.Tick(i))
		same(t, "Tick", h, p)
	}
	var reached []int
	for _, m := range h.Mails().All() {
		if m.From == at(1) && !m.To.Client {
			reached = append(reached, m.To.Number)
		}
	}
	if slices.Sort(reached); !slices.Equal(slices.Compact(reached), []int{0, 2, 3}) {
		t.Errorf("1 told %v", reached)
	}
}

func TestDeliverOfNothing(t *testing.T) { // P23.3
	h, p := fresh(t, 4, 1, 1)
	for _, i := range append([]int{0, 1}, odd...) {
		is(t, "of nothing", h.Deliver(i), api.ErrMissing)
	}
	put(t, h, p, at(0), at(1), nil)
	for _, i := range append([]int{1, 2}, odd...) {
		is(t, "of another one", h.Deliver(i), api.ErrMissing)
	}
	same(t, "refused", h, p)
	is(t, "of one that can't be read", h.Deliver(0), api.ErrShort)
	if h.Mails().Len() != 0 {
		t.Error("it is still on its way")
	}
}

func TestDeliverErrors(t *testing.T) { // P23.3, and the order of its errors
	h, p := fresh(t, 4, 1, 2)
	is(t, "Crash", h.Crash(2, 0), p.Crash(2, 0))
	mine, link := entry(t, 0, 1, "x"), written(t, api.Msg{Kind: replica.Link, Height: 2, Num: 1})
	long := written(t, api.Msg{Kind: 1, Num: 1, Data: make([]byte, 257)})
	for _, c := range []struct {
		what     string
		from, to post.Place
		b        []byte
		want     api.Errno
	}{
		{"to no client", at(0), of(2), nil, api.ErrRange},
		{"from a client to none", of(0), of(-1), link, api.ErrRange},
		{"to a client, unread", at(0), of(1), []byte{0}, api.ErrTag},
		{"from a client to one, unread", of(0), of(1), nil, api.ErrShort},
		{"from a client to one", of(0), of(1), mine, api.ErrForm},
		{"from a client to itself", of(1), of(1), link, api.ErrForm},
		{"to a client: no head", at(0), of(1), mine, api.ErrForm},
		{"to a client: a link", at(0), of(1), link, api.ErrMissing},
		{"to a client: a proof", at(0), of(1), written(t, api.Msg{Kind: replica.Proof, Data: mine}), api.ErrMissing},
		{"to a client: a head of another one", at(3), of(1), written(t, signedBy(t, keys.New(h.Seed(0)), 0, 1, 5)), api.ErrRange},
		{"to a client: a head", at(0), of(1), written(t, signedBy(t, keys.New(h.Seed(0)), 0, 1, 5)), api.OK},
		{"to a client: a head, once more", at(0), of(1), written(t, signedBy(t, keys.New(h.Seed(0)), 0, 1, 5)), api.ErrTwice},
		{"to nobody", at(0), at(4), nil, api.ErrRange},
		{"to nobody, from a client", of(0), at(math.MinInt), mine, api.ErrRange},
		{"to a faulty one", at(0), at(3), nil, api.ErrDown},
		{"to a faulty one, from a client", of(0), at(3), nil, api.ErrDown},
		{"to one who is down", at(0), at(2), nil, api.ErrDown},
		{"to one who is down, from a client", of(0), at(2), mine, api.ErrDown},
		{"unread", at(0), at(1), nil, api.ErrShort},
		{"of another kind", at(0), at(1), mine, api.OK},
		{"from nobody", at(9), at(1), mine, api.OK},
		{"from itself", at(1), at(1), written(t, api.Msg{Kind: core.State, Height: 1}), api.OK},
		{"from a client, unread", of(0), at(1), nil, api.ErrForm},
		{"from a client, with a field that can't be", of(0), at(1), append(slices.Clone(link), 0), api.ErrForm},
		{"from a client: an entry that is too long", of(0), at(1), long, api.ErrForm},
		{"from a client: of another kind", of(0), at(1), written(t, api.Msg{Kind: core.State, Height: 1}), api.ErrForm},
		{"from a client: another one's", of(1), at(1), mine, api.ErrForm},
		{"from a client that there isn't: another one's", of(9), at(1), mine, api.ErrForm},
		{"from a client: a link that there isn't", of(0), at(1), link, api.OK},
		{"from a client", of(0), at(1), mine, api.OK},
		{"from a client, once more", of(0), at(1), mine, api.OK},
		{"from a client that there isn't", of(9), at(1), entry(t, 9, 1, "x"), api.OK},
	} {
		put(t, h, p, c.from, c.to, c.b)
		last := h.Mails().Len() - 1
		got, want := h.Deliver(last), p.Deliver(last)
		if got != c.want || want != c.want {
			t.Errorf("%s: %v, the plain one %v, want %v", c.what, got, want, c.want)
		}
		same(t, c.what, h, p)
	}
	for num := 2; num <= 4; num++ { // layer 19's errors
		put(t, h, p, of(0), at(0), entry(t, 0, num, "x"))
		is(t, "one more", h.Deliver(h.Mails().Len()-1), p.Deliver(len(p.mails)-1))
	}
	put(t, h, p, of(0), at(0), entry(t, 0, 5, "x"))
	is(t, "one too many", h.Deliver(h.Mails().Len()-1), api.ErrQuota)
	is(t, "one too many", p.Deliver(len(p.mails)-1), api.ErrQuota)
	same(t, "one too many", h, p)
	h.Break(1, 0)
	p.Break(1, 0)
	h.Tick(1)
	p.Tick(1)
	for range 2 {
		put(t, h, p, of(0), at(1), entry(t, 0, 2, "x"))
		is(t, "without power", h.Deliver(h.Mails().Len()-1), p.Deliver(len(p.mails)-1))
	}
	same(t, "without power", h, p)
}

func TestDeliverToWhoIsHalted(t *testing.T) { // P23.3: it is up, and says nothing
	h, _ := fresh(t, 1, 0, 1)
	h.Break(0, 1)
	h.Submit(0, nil)
	is(t, "the last one", h.Deliver(0), api.OK)
	if !keeper(t, h, 0).Halted() || h.Mails().Len() != 0 {
		t.Error("it isn't halted")
	}
	h.Retry(0)
	is(t, "an entry", h.Deliver(0), api.ErrDown)
	h.Mails().Put(post.Mail{From: at(0), To: at(0), Bytes: written(t, api.Msg{Kind: replica.Ask, Height: 1})})
	is(t, "another message", h.Deliver(0), api.OK)
	is(t, "Tick", h.Tick(0), api.OK)
	is(t, "Back", h.Back(0), api.ErrTwice)
	if n := h.Calm(3); n != 3 || keeper(t, h, 0).Height() != 0 {
		t.Errorf("Calm: %d", n)
	}
	is(t, "Crash", h.Crash(0, math.MaxInt), api.OK)
	is(t, "Back", h.Back(0), api.OK)
	if n := h.Calm(3); n > 1 || keeper(t, h, 0).Height() != 1 {
		t.Errorf("Calm: %d", n)
	}
}

func TestLinks(t *testing.T) { // P23.3: asked for by a client
	h, p := fresh(t, 1, 0, 1)
	for i := range 4 {
		h.Submit(0, []byte{byte(i)})
		p.Submit(0, []byte{byte(i)})
		if h.Calm(9) != 0 || p.Calm(9) != 0 {
			t.Fatal("Calm")
		}
	}
	for _, who := range []int{0, 3, 15, -4, math.MaxInt} {
		m := api.Msg{Kind: replica.Link, Who: 7, Height: 4, Num: 2, Data: []byte("x")}
		put(t, h, p, of(who), at(0), written(t, m))
		is(t, "asked", h.Deliver(0), api.OK)
		is(t, "asked", p.Deliver(0), api.OK)
		same(t, "asked", h, p)
		if h.Mails().Len() != 1 {
			t.Fatal("no answer")
		}
		want := api.OK
		if who != 0 {
			want = api.ErrRange
		}
		is(t, "answered", h.Deliver(0), want)
		p.Deliver(0)
	}
	if !buyer(t, h, 0).Linked(2, 4) || buyer(t, h, 0).Linked(1, 4) {
		t.Error("what is linked")
	}
}

func TestWrite(t *testing.T) { // P23.3
	h, p := fresh(t, 7, 2, 1)
	for _, from := range append([]int{0, 4, 7}, odd...) {
		is(t, "who isn't faulty", h.Write(from, at(0), []byte("x")), api.ErrRange)
	}
	same(t, "refused", h, p)
	for from := 5; from < 7; from++ {
		for _, to := range []post.Place{at(0), at(5), at(6), of(0), at(-7), of(math.MaxInt)} {
			b := append(make([]byte, 0, 9), "text"...)
			is(t, "Write", h.Write(from, to, b[:from-3]), p.Write(from, to, b[:from-3]))
			copy(b[:9], "otherwise")
		}
		is(t, "Write of nothing", h.Write(from, at(0), nil), p.Write(from, at(0), nil))
		same(t, "Write", h, p)
	}
	h, p = fresh(t, 4, 0, 0)
	is(t, "nobody is faulty", h.Write(3, at(0), nil), api.ErrRange)
	same(t, "refused", h, p)
}

func TestFullPost(t *testing.T) { // P23.3: 600 at most; what there is no room for is lost
	h, p := fresh(t, 4, 1, 4)
	for i := range 600 {
		is(t, "Write", h.Write(3, at(i%3), []byte{byte(i)}), p.Write(3, at(i%3), []byte{byte(i)}))
	}
	is(t, "one too many", h.Write(3, at(0), nil), api.ErrFull)
	num, e := h.Submit(0, nil)
	if m, _ := p.Submit(0, nil); num != 1 || m != 1 || e != api.OK {
		t.Errorf("Submit: %d, %v", num, e)
	}
	is(t, "Retry", h.Retry(0), api.OK)
	same(t, "full", h, p)
	for range 2 { // of four there is room for two
		h.Mails().Take(0)
		p.Take(0)
	}
	is(t, "Retry", h.Retry(0), p.Retry(0))
	same(t, "nearly full", h, p)
	is(t, "an entry", h.Deliver(599), p.Deliver(599))
	for range 3 {
		is(t, "Tick", h.Tick(1), p.Tick(1))
	}
	same(t, "full again", h, p)
	if a, b := h.Calm(40), p.Calm(40); a != b || a == 40 {
		t.Errorf("Calm: %d, %d", a, b)
	}
	same(t, "Calm", h, p)
}

func TestBreak(t *testing.T) { // P23.3: of a slab, also of who is down or faulty
	h, p := fresh(t, 4, 1, 1)
	for _, i := range append([]int{4}, odd...) {
		is(t, "of nobody", h.Break(i, 3), api.ErrRange)
	}
	for i := range 4 {
		for _, steps := range []int{0, math.MinInt, math.MaxInt, 3, -1} {
			is(t, "Break", h.Break(i, steps), api.OK)
		}
	}
	for steps := range 8 {
		h.Submit(0, []byte("x"))
		p.Submit(0, []byte("x"))
		is(t, "Break", h.Break(1, steps), p.Break(1, steps))
		a, b := h.Calm(30), p.Calm(30)
		same(t, fmt.Sprint("with power for ", steps), h, p)
		if r := keeper(t, h, 1); a != b || steps < 5 && !r.Halted() {
			t.Errorf("with power for %d steps: %d, %d turns", steps, a, b)
		}
		is(t, "Crash", h.Crash(1, steps), p.Crash(1, steps))
		is(t, "Break", h.Break(1, -1), p.Break(1, -1))
		is(t, "Back", h.Back(1), p.Back(1))
		if a, b := h.Calm(90), p.Calm(90); a != b || a == 90 {
			t.Errorf("Calm: %d, %d", a, b)
		}
		same(t, "Back", h, p)
	}
}

func TestCrashAndBack(t *testing.T) { // P23.3
	h, p := fresh(t, 4, 1, 1)
	for _, i := range append([]int{4}, odd...) {
		is(t, "Crash of nobody", h.Crash(i, 0), api.ErrRange)
		is(t, "Back of nobody", h.Back(i), api.ErrRange)
	}
	is(t, "Crash of a faulty one", h.Crash(3, 0), api.ErrDown)
	is(t, "Back of a faulty one", h.Back(3), api.ErrRange)
	is(t, "Back of one who is up", h.Back(0), api.ErrTwice)
	same(t, "refused", h, p)
	elder := keeper(t, h, 0)
	is(t, "Crash", h.Crash(0, 0), api.OK)
	is(t, "Crash of one who is down", h.Crash(0, 0), api.ErrDown)
	is(t, "Tick of one who is down", h.Tick(0), api.ErrDown)
	if r, e := h.Replica(0); r != nil || e != api.ErrDown {
		t.Errorf("one who is down: %v", e)
	}
	is(t, "Back", h.Back(0), api.OK)
	is(t, "Back of one who is up", h.Back(0), api.ErrTwice)
	if r := keeper(t, h, 0); r == elder || r.Public() != h.Public(0) {
		t.Error("it is the elder one")
	}
	if a, b, c := h.Len(); a != 4 || b != 1 || c != 1 {
		t.Errorf("Len: %d, %d, %d", a, b, c)
	}
}

func TestBackFails(t *testing.T) { // P23.3: layer 19's error, and it is down still
	for keep := 1; keep < 90; keep += 8 {
		h, p := fresh(t, 1, 0, 1)
		h.Submit(0, []byte("x"))
		p.Submit(0, []byte("x"))
		h.Break(0, 1) // of the first record nothing is sure
		p.Break(0, 1)
		h.Deliver(0)
		p.Deliver(0)
		is(t, "Crash", h.Crash(0, keep), p.Crash(0, keep))
		is(t, "Break", h.Break(0, 0), p.Break(0, 0))
		got, want := h.Back(0), p.Back(0)
		is(t, "Back without power", got, want)
		same(t, "Back without power", h, p)
		if got == api.OK {
			continue
		}
		is(t, "Back without power", got, api.ErrDown)
		is(t, "once more", h.Back(0), api.ErrDown)
		is(t, "it is down", h.Tick(0), api.ErrDown)
		h.Break(0, -1)
		p.Break(0, -1)
		is(t, "Back", h.Back(0), p.Back(0))
		same(t, "Back", h, p)
	}
}

func TestCalm(t *testing.T) { // P23.3: how often it was
	h, p := fresh(t, 4, 1, 2)
	for _, turns := range []int{math.MinInt, -1, 0, 1, 5} {
		if n := h.Calm(turns); n != 0 {
			t.Errorf("of nothing, Calm(%d): %d", turns, n)
		}
	}
	h.Submit(1, []byte("x"))
	p.Submit(1, []byte("x"))
	for _, turns := range []int{math.MinInt, -1, 0} { // not even what is on its way comes
		if n := h.Calm(turns); n != 0 {
			t.Errorf("Calm(%d): %d", turns, n)
		}
	}
	same(t, "0 turns", h, p)
	is(t, "Crash", h.Crash(0, 0), p.Crash(0, 0)) // two of four can't agree
	for turns := 1; turns < 4; turns++ {
		if a, b := h.Calm(turns), p.Calm(turns); a != turns || b != turns {
			t.Errorf("Calm(%d): %d, %d", turns, a, b)
		}
		same(t, "all clocks go on", h, p)
	}
	is(t, "Back", h.Back(0), p.Back(0))
	a, b := h.Calm(100), p.Calm(100)
	if a != b || a == 100 {
		t.Errorf("Calm: %d, %d", a, b)
	}
	same(t, "calm", h, p)
	if n := h.Calm(100); n != 0 {
		t.Errorf("behind Calm: %d", n)
	}
	h.Write(3, of(0), []byte("junk")) // it comes, though nothing is under way
	if n := h.Calm(1); n != 0 || h.Mails().Len() != 0 {
		t.Errorf("with junk: %d, %d messages", n, h.Mails().Len())
	}
}

func TestCalmIsExact(t *testing.T) { // P23.3: the turn in which nothing was under way, and turns, if that is the last one
	for seed := range int64(4) {
		a, b := newPlay(t, seed, 4, 1, 2), newPlay(t, seed, 4, 1, 2)
		for _, p := range []*play{a, b} {
			p.submit(0)
			p.submit(1)
			if seed%2 > 0 {
				p.h.Mails().Take(5) // who proposes has both later
				p.h.Mails().Take(1)
			}
		}
		n := a.h.Calm(100)
		if n == 100 || (n > 0) != (seed%2 > 0) {
			t.Errorf("seed %d: Calm: %d", seed, n)
		}
		if m := b.h.Calm(n); m != n || b.open() == 0 {
			t.Errorf("seed %d: Calm(%d): %d, %d under way", seed, n, m, b.open())
		}
		if m := b.h.Calm(1); m != 0 || b.open() != 0 {
			t.Errorf("seed %d: and then: %d", seed, m)
		}
	}
}

func TestMails(t *testing.T) { // P23.1: the post itself
	h, p := fresh(t, 4, 1, 1)
	h.Submit(0, []byte("x"))
	p.Submit(0, []byte("x"))
	is(t, "Twice", h.Mails().Twice(1), api.OK)
	p.put(of(0), at(1), entry(t, 0, 1, "x"))
	h.Mails().Take(0)
	p.Take(0)
	same(t, "one lost, one doubled", h, p)
	for i := range 4 {
		is(t, "Deliver", h.Deliver(0), p.Deliver(0))
		same(t, fmt.Sprint("the message ", i), h, p)
	}
}

func TestNothingIsShared(t *testing.T) { // P2
	h, p := fresh(t, 4, 1, 1)
	text := append(make([]byte, 0, 16), "text"...)
	h.Submit(0, text)
	p.Submit(0, text)
	clear(text[:16])
	b := written(t, api.Msg{Kind: core.State, Who: 3, Height: 1, IDs: []api.ID{{5}}})
	h.Write(3, at(1), b)
	p.Write(3, at(1), b)
	clear(b[:cap(b)])
	same(t, "with what came cleared", h, p)
	other, q := fresh(t, 4, 1, 1)
	other.Submit(0, []byte("another"))
	q.Submit(0, []byte("another"))
	for range 5 {
		is(t, "Deliver", h.Deliver(0), p.Deliver(0))
	}
	same(t, "one", h, p)
	same(t, "the other one", other, q)
}

func TestDrawnCalls(t *testing.T) { // P23.1 to P23.3: all together, with faulty ones who write, and numbers of nobody
	for seed := range int64(24) {
		voters := []int{4, 1, 4, 7}[seed%4]
		clients := 1 + int(seed/4)%3
		s := newPlay(t, seed, voters, (voters-1)/3, clients)
		h, p := s.h, newPlain(t, voters, (voters-1)/3, clients, api.ID{byte(seed), byte(seed >> 8), 5})
		for step := range 250 {
			what := fmt.Sprintf("seed %d, step %d", seed, step)
			draws(t, what, s, p)
			if e := h.Deliver(-1); e != api.ErrMissing {
				t.Fatal(e)
			}
			same(t, what, h, p)
		}
	}
}

// draws: a call that is drawn, of both.
func draws(t *testing.T, what string, s *play, p *plain) {
	t.Helper()
	h := s.h
	both := func(call string, got, want any) {
		t.Helper()
		if got != want {
			t.Fatalf("%s: %s: %v, want %v", what, call, got, want)
		}
	}
	who := s.Intn(s.voters)
	if s.Intn(30) == 0 {
		who = odd[s.Intn(len(odd))]
	}
	switch x := s.Intn(100); {
	case x < 50:
		i := s.Intn(h.Mails().Len()+1) * s.Intn(2)
		both("Deliver", h.Deliver(i), p.Deliver(i))
	case x < 60:
		i, text := s.Intn(s.clients+1), make([]byte, s.Intn(3)*s.Intn(130))
		a, e := h.Submit(i, text)
		b, f := p.Submit(i, text)
		both("Submit", [2]int{a, int(e)}, [2]int{b, int(f)})
	case x < 75:
		both("Tick", h.Tick(who), p.Tick(who))
	case x < 78:
		i := s.Intn(s.clients + 1)
		both("Retry", h.Retry(i), p.Retry(i))
	case x < 88 && s.faulty > 0:
		from, to, b := s.lie()
		both("Write", h.Write(from, to, b), p.Write(from, to, b))
	case x < 90:
		steps := s.Intn(10) - 1
		both("Break", h.Break(who, steps), p.Break(who, steps))
	case x < 92:
		keep := s.Intn(300) - 20
		both("Crash", h.Crash(who, keep), p.Crash(who, keep))
	case x < 96:
		both("Back", h.Back(who), p.Back(who))
	case x < 98:
		i := s.Intn(h.Mails().Len() + 1)
		m, e := h.Mails().Take(i)
		n, f := p.Take(i)
		both("Take", fmt.Sprint(m, e), fmt.Sprint(n, f))
	default:
		turns := s.Intn(4) - 1
		both("Calm", h.Calm(turns), p.Calm(turns))
	}
}

func TestAllArguments(t *testing.T) { // P1
	random := rand.New(rand.NewSource(3))
	numbers := append([]int{0, 1, 2, 3, 4, 5, 6}, odd...)
	for _, n := range [][3]int{{1, 0, 1}, {4, 1, 2}, {7, 2, 4}} {
		h, _ := fresh(t, n[0], n[1], n[2])
		draw := func() int { return numbers[random.Intn(len(numbers))] }
		for range 400 {
			i, k := draw(), draw()
			to := post.Place{Client: random.Intn(2) == 0, Number: k}
			b := make([]byte, random.Intn(40))
			random.Read(b)
			h.Seed(i)
			h.Public(i)
			h.Replica(i)
			h.Client(i)
			h.Submit(i, b)
			h.Deliver(i)
			h.Write(i, to, b)
			h.Mails().Put(post.Mail{From: post.Place{Client: random.Intn(2) == 0, Number: i}, To: to, Bytes: b})
			h.Tick(i)
			h.Retry(i)
			h.Break(i, k)
			h.Crash(i, k)
			h.Back(k)
			h.Calm(min(k, 2))
		}
	}
}
