package post_test

import (
	"bytes"
	"math"
	"math/rand"
	"reflect"
	"runtime"
	"slices"
	"testing"

	"scrivener/api"
	"scrivener/pack"
	"scrivener/post"
)

func TestTheZeroPost(t *testing.T) { // Types
	if post.MaxMails != 600 {
		t.Errorf("MaxMails: %d", post.MaxMails)
	}
	var p post.Post
	same(t, "the zero Post", &p, nil)
	for _, i := range append([]int{0, 1}, odd...) {
		missing(t, "the zero Post", &p, i)
	}
	same(t, "the zero Post, asked", &p, nil)
}

// missing: is there no i-th one, neither to take nor to double?
func missing(t *testing.T, what string, p *post.Post, i int) {
	t.Helper()
	if m, e := p.Take(i); e != api.ErrMissing || !reflect.DeepEqual(m, post.Mail{}) {
		t.Errorf("%s: Take(%d): %v, %v", what, i, m, e)
	}
	if e := p.Twice(i); e != api.ErrMissing {
		t.Errorf("%s: Twice(%d): %v", what, i, e)
	}
}

func TestOneIsOnItsWay(t *testing.T) { // P21.1, P21.2, and the example
	var p post.Post
	message := api.Msg{Kind: 3, Height: 258, Data: []byte("x")}
	want := post.Mail{From: keeper, To: buyer, Bytes: []byte{3, 2, 0, 0, 2, 1, 2, 7, 0, 0, 1, 'x'}}
	if e := p.Send(keeper, buyer, message); e != api.OK {
		t.Errorf("Send: %v", e)
	}
	same(t, "one", &p, plain{want})
	m, e := p.Take(0)
	if e != api.OK || !alike(m, want) {
		t.Errorf("Take: %v, %v", m, e)
	}
	same(t, "it came", &p, nil)
	missing(t, "it came", &p, 0)
	if got, e := pack.Read(m.Bytes); e != api.OK || !reflect.DeepEqual(got, message) {
		t.Errorf("Read: %v, %v", got, e)
	}
}

func TestSend(t *testing.T) { // P21.1: as Put of what Write answers, whoever it is from and to
	p, q := &post.Post{}, plain{}
	places := []post.Place{nobody, keeper, buyer, {Number: -1}, {Client: true, Number: math.MaxInt}, {Number: math.MinInt}}
	for _, from := range places {
		for _, to := range places {
			for _, m := range []api.Msg{
				{Kind: 1},
				{Kind: 31, Who: 1, Height: 2, Round: 3, Valid: 4, Num: 1 << 40, ID: api.ID{5}, Data: []byte("d"), IDs: make([]api.ID, 64), List: make([][]byte, 64)},
			} {
				if e, f := p.Send(from, to, m), q.send(from, to, m); e != api.OK || f != api.OK {
					t.Errorf("Send from %v to %v: %v", from, to, e)
				}
			}
		}
	}
	long := api.Msg{Kind: 7, Data: make([]byte, pack.MaxData)}
	if e, f := p.Send(keeper, buyer, long), q.send(keeper, buyer, long); e != api.OK || f != api.OK {
		t.Errorf("Send of a long one: %v", e)
	}
	same(t, "sent", p, q)
}

func TestSendRefused(t *testing.T) { // P21.1: why it can't be written, and only then whether there is room
	unwritten := []struct {
		what string
		m    api.Msg
		want api.Errno
	}{
		{"no kind", api.Msg{}, api.ErrTag},
		{"a kind below", api.Msg{Kind: -1}, api.ErrTag},
		{"a kind above", api.Msg{Kind: 32}, api.ErrTag},
		{"a kind above, and a number below", api.Msg{Kind: 32, Who: -1}, api.ErrTag},
		{"a number below", api.Msg{Kind: 1, Num: -1}, api.ErrRange},
		{"a number above", api.Msg{Kind: 1, Height: 1<<40 + 1}, api.ErrRange},
		{"a number below, and too much", api.Msg{Kind: 1, Num: -1, IDs: make([]api.ID, 65)}, api.ErrRange},
		{"too many sums", api.Msg{Kind: 1, IDs: make([]api.ID, 65)}, api.ErrLong},
		{"too long a list", api.Msg{Kind: 1, List: make([][]byte, 65)}, api.ErrLong},
		{"too much", api.Msg{Kind: 1, Data: make([]byte, pack.MaxData+1)}, api.ErrLong},
	}
	for _, count := range []int{0, 1, 599, 600} {
		p, q := filled(t, count)
		for _, c := range unwritten {
			if e := p.Send(keeper, buyer, c.m); e != c.want {
				t.Errorf("%s, behind %d: %v, want %v", c.what, count, e, c.want)
			}
		}
		same(t, "refused", p, q)
	}
	p, q := filled(t, 600)
	if e := p.Send(keeper, buyer, api.Msg{Kind: 1}); e != api.ErrFull {
		t.Errorf("one too many: %v", e)
	}
	same(t, "one too many", p, q)
}

func TestPutTakesAnyBytes(t *testing.T) { // P21.1: also such as are no message
	p, q := &post.Post{}, plain{}
	for i, b := range [][]byte{nil, {}, {0}, []byte("raw"), {1}, {255, 255, 255, 255}, make([]byte, 300000), []byte("raw")} {
		m := post.Mail{From: post.Place{Number: i - 2}, To: post.Place{Client: true, Number: math.MaxInt - i}, Bytes: b}
		if e, f := p.Put(m), q.put(m); e != api.OK || f != api.OK {
			t.Errorf("Put of %d bytes: %v", len(b), e)
		}
	}
	same(t, "any bytes", p, q)
	if e, f := p.Put(post.Mail{}), q.put(post.Mail{}); e != api.OK || f != api.OK {
		t.Errorf("Put of the zero Mail: %v", e)
	}
	same(t, "the zero Mail", p, q)
}

func TestFull(t *testing.T) { // P21.1, P21.2: 600 are on their way, and no more, till one isn't any more
	p, q := filled(t, 599)
	full := func(what string) {
		t.Helper()
		for _, e := range []api.Errno{p.Put(post.Mail{}), p.Put(mail(keeper, buyer, "x")), p.Send(keeper, buyer, api.Msg{Kind: 1}), p.Twice(0), p.Twice(599)} {
			if e != api.ErrFull {
				t.Errorf("%s, one too many: %v", what, e)
			}
		}
		for _, i := range odd {
			missing(t, what, p, i)
		}
		same(t, what, p, q)
	}
	taken := func(i int) {
		t.Helper()
		m, e := p.Take(i)
		if want, f := q.take(i); e != api.OK || f != api.OK || !alike(m, want) {
			t.Errorf("Take(%d): %v, %v, want %v", i, m, e, want)
		}
		missing(t, "599", p, 599)
	}
	last := mail(keeper, buyer, "the last")
	if e, f := p.Put(last), q.put(last); e != api.OK || f != api.OK {
		t.Errorf("the last Put: %v", e)
	}
	full("behind Put")
	taken(0)
	if e, f := p.Send(buyer, keeper, api.Msg{Kind: 2}), q.send(buyer, keeper, api.Msg{Kind: 2}); e != api.OK || f != api.OK {
		t.Errorf("the last Send: %v", e)
	}
	full("behind Send")
	taken(599)
	if e, f := p.Twice(598), q.twice(598); e != api.OK || f != api.OK {
		t.Errorf("the last Twice: %v", e)
	}
	full("behind Twice")
}

func TestTakeOfEach(t *testing.T) { // P21.2: the others stay, in their order
	for count := 1; count <= 9; count++ {
		for i := range count {
			p, q := filled(t, count)
			m, e := p.Take(i)
			if want, _ := q.take(i); e != api.OK || !alike(m, want) {
				t.Errorf("Take(%d) of %d: %v, %v, want %v", i, count, m, e, want)
			}
			same(t, "taken", p, q)
			for _, j := range append([]int{count - 1, count}, odd...) {
				missing(t, "taken", p, j)
			}
			next := mail(buyer, keeper, "next")
			if e, f := p.Put(next), q.put(next); e != api.OK || f != api.OK {
				t.Errorf("Put behind it: %v", e)
			}
			same(t, "one more", p, q)
		}
	}
}

func TestTakeOfAll(t *testing.T) { // P21.2
	for what, which := range map[string]func(p *post.Post) int{
		"the first":  func(p *post.Post) int { return 0 },
		"the last":   func(p *post.Post) int { return p.Len() - 1 },
		"the middle": func(p *post.Post) int { return p.Len() / 2 },
	} {
		p, q := filled(t, 600)
		for p.Len() > 0 {
			i := which(p)
			m, e := p.Take(i)
			if want, _ := q.take(i); e != api.OK || !alike(m, want) {
				t.Fatalf("%s, %d: %v, %v, want %v", what, i, m, e, want)
			}
			if p.Len()%97 == 0 {
				same(t, what, p, q)
			}
		}
		same(t, "none", p, nil)
		missing(t, "none", p, 0)
	}
}

func TestTwice(t *testing.T) { // P21.2: it is there as before, and behind the others once more
	for count := 1; count <= 9; count++ {
		for i := range count {
			p, q := filled(t, count)
			for range 3 {
				if e, f := p.Twice(i), q.twice(i); e != api.OK || f != api.OK {
					t.Errorf("Twice(%d) of %d: %v", i, count, e)
				}
				same(t, "doubled", p, q)
			}
			one, e := p.Take(i)
			other, f := p.Take(p.Len() - 1)
			if e != api.OK || f != api.OK || !alike(one, other) || !alike(one, q[i]) {
				t.Errorf("Take of both: %v, %v, %v, %v", one, e, other, f)
			}
		}
	}
	p, q := filled(t, 3)
	for _, i := range append([]int{3}, odd...) {
		missing(t, "three", p, i)
	}
	same(t, "three", p, q)
}

func TestAllMayBeLeft(t *testing.T) { // P21.2, rule 6: it goes through what there is when the loop begins
	p, q := filled(t, 5)
	list := p.All()
	for left := range 5 {
		n := 0
		for i, m := range list {
			if i != n || !alike(m, q[n]) {
				t.Errorf("at %d: %d, %v", n, i, m)
			}
			if n++; i == left {
				break
			}
		}
		if n != left+1 {
			t.Errorf("left at %d: %d items", left, n)
		}
	}
	p.Take(1)
	q.take(1)
	p.Put(mail(keeper, buyer, "new"))
	q.put(mail(keeper, buyer, "new"))
	var got plain
	for _, m := range list {
		got = append(got, m)
	}
	if !slices.EqualFunc(got, q, alike) {
		t.Errorf("gone through later: %v, want %v", got, q)
	}
}

func TestALoopStaysAsItBegan(t *testing.T) { // P1: whatever comes and goes meanwhile
	for count := 1; count <= 9; count++ {
		p, q := filled(t, count)
		was := slices.Clone(q)
		var got plain
		for i, m := range p.All() {
			got = append(got, m)
			p.Take(i / 2)
			q.take(i / 2)
			p.Put(mail(keeper, buyer, "meanwhile"))
			q.put(mail(keeper, buyer, "meanwhile"))
			same(t, "within", p, q)
		}
		if !slices.EqualFunc(got, was, alike) {
			t.Errorf("of %d: %v, want %v", count, got, was)
		}
	}
}

// spoil changes bytes, and all their spare room.
func spoil(b []byte) {
	b = b[:cap(b)]
	for i := range b {
		b[i] += 101 // so that spoiling twice does not mend
	}
}

func TestNothingHandedInIsChangedOrKept(t *testing.T) { // P2
	p, q := &post.Post{}, plain{}
	message := api.Msg{Kind: 4, Data: []byte("data and room")[:4], IDs: []api.ID{{1}, {2}, {3}}[:2], List: [][]byte{[]byte("list and room")[:4], {9}}[:1]}
	if e, f := p.Send(keeper, buyer, message), q.send(keeper, buyer, message); e != api.OK || f != api.OK {
		t.Errorf("Send: %v", e)
	}
	if string(message.Data[:13]) != "data and room" || message.IDs[:3][2] != (api.ID{3}) || string(message.List[0][:13]) != "list and room" || message.List[:2][1][0] != 9 {
		t.Error("Send changes its message")
	}
	spoil(message.Data)
	spoil(message.List[0])
	clear(message.IDs)
	clear(message.List)
	same(t, "a message spoilt", p, q)
	m := mail(keeper, buyer, "bytes and room")
	m.Bytes = m.Bytes[:5]
	if e, f := p.Put(m), q.put(m); e != api.OK || f != api.OK || string(m.Bytes[:14]) != "bytes and room" {
		t.Errorf("Put changes its bytes, or %v", e)
	}
	spoil(m.Bytes)
	same(t, "bytes spoilt", p, q)
	p.Put(mail(buyer, keeper, ""))
	q.put(mail(buyer, keeper, ""))
	same(t, "another one", p, q)
}

func TestWhatIsAnsweredIsApart(t *testing.T) { // P2
	p, q := filled(t, 4)
	for range 2 {
		for _, m := range p.All() {
			spoil(m.Bytes)
		}
	}
	same(t, "all spoilt", p, q)
	for range 2 {
		p.Twice(2)
		q.twice(2)
	}
	for _, i := range []int{2, 3, 0, 2, 0, 0} {
		one := all(t, "ahead", p)
		m, e := p.Take(i)
		want, _ := q.take(i)
		if e != api.OK || !alike(m, want) {
			t.Errorf("Take(%d): %v, %v, want %v", i, m, e, want)
		}
		spoil(m.Bytes)
		same(t, "one spoilt", p, q)
		if !alike(one[i], want) {
			t.Errorf("what All answered, and Take(%d), share memory", i)
		}
	}
}

func TestPostsAreApart(t *testing.T) { // P2
	p, q := filled(t, 3)
	var other post.Post
	same(t, "another Post", &other, nil)
	other.Put(mail(keeper, buyer, "other"))
	same(t, "the first", p, q)
	same(t, "another Post", &other, plain{mail(keeper, buyer, "other")})
}

func TestACopyIsApart(t *testing.T) { // P2: a Post is a struct, which may be copied
	for count := range 10 {
		for i := range count + 1 {
			p, q := filled(t, count)
			p.Take(i)
			q.take(i)
			a, b := *p, *p
			x, y, z := slices.Clone(q), slices.Clone(q), slices.Clone(q)
			for _, text := range []string{"1", "2"} {
				a.Put(mail(keeper, buyer, "a"+text))
				x.put(mail(keeper, buyer, "a"+text))
				b.Put(mail(buyer, keeper, "b"+text))
				y.put(mail(buyer, keeper, "b"+text))
				a.Take(0)
				x.take(0)
				m, _ := b.Take(1)
				y.take(1)
				spoil(m.Bytes)
			}
			same(t, "a copy", &a, x)
			same(t, "another copy", &b, y)
			same(t, "what was copied", p, z)
		}
	}
}

func TestWhatCameIsNotKept(t *testing.T) {
	kept := func() int {
		var m runtime.MemStats
		runtime.GC()
		runtime.ReadMemStats(&m)
		return int(m.HeapAlloc)
	}
	for what, at := range map[string]func(p *post.Post) int{
		"the first": func(p *post.Post) int { return 0 },
		"the last":  func(p *post.Post) int { return p.Len() - 1 },
	} {
		ahead := kept()
		var p post.Post
		for range 33 {
			p.Put(post.Mail{Bytes: make([]byte, 1<<20)})
		}
		full := kept() - ahead
		for p.Len() > 1 {
			p.Take(at(&p))
		}
		if one := kept() - ahead; full < 32<<20 || one > 4<<20 {
			t.Errorf("%s came: of %d bytes %d are kept", what, full, one)
		}
		runtime.KeepAlive(&p)
	}
}

func TestDrawnCalls(t *testing.T) { // P1, P21.1, P21.2
	for seed := range int64(60) {
		draw := rand.New(rand.NewSource(seed))
		var p post.Post
		var q plain
		more := 40 + draw.Intn(50) // of some posts more come than go
		for step := range 1500 {
			i := draw.Intn(len(q)+3) - 1
			place := func() post.Place { return post.Place{Client: draw.Intn(2) == 0, Number: draw.Intn(9) - 1} }
			from, to := place(), place()
			var e, want api.Errno
			switch n := draw.Intn(100); {
			case n >= more:
				var m, w post.Mail
				m, e = p.Take(i)
				w, want = q.take(i)
				if !alike(m, w) || e != api.OK && m.Bytes != nil {
					t.Fatalf("seed %d: Take(%d): %v, want %v", seed, i, m, w)
				}
				spoil(m.Bytes)
			case n%3 == 0:
				b := bytes.Repeat([]byte{byte(step)}, draw.Intn(4))
				e, want = p.Put(post.Mail{From: from, To: to, Bytes: b}), q.put(post.Mail{From: from, To: to, Bytes: b})
				spoil(b)
			case n%3 == 1:
				m := api.Msg{Kind: draw.Intn(34) - 1, Num: draw.Intn(20) - 1, Height: step}
				e, want = p.Send(from, to, m), q.send(from, to, m)
			default:
				e, want = p.Twice(i), q.twice(i)
			}
			if e != want || p.Len() != len(q) {
				t.Fatalf("seed %d: %v, want %v; %d, want %d", seed, e, want, p.Len(), len(q))
			}
			if step%50 == 0 {
				same(t, "drawn", &p, q)
			}
		}
		same(t, "drawn, at the end", &p, q)
	}
}
