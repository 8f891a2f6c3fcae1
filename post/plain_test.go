package post_test

import (
	"bytes"
	"math"
	"slices"
	"testing"

	"scrivener/api"
	"scrivener/pack"
	"scrivener/post"
)

// odd is numbers that are none of a message, however many there are.
var odd = []int{math.MinInt, math.MinInt32, -2, -1, 600, 601, 4711, math.MaxInt32, math.MaxInt}

// plain is a post as plain as may be.
type plain []post.Mail

func (p *plain) put(m post.Mail) api.Errno {
	if len(*p) == 600 {
		return api.ErrFull
	}
	m.Bytes = append([]byte{}, m.Bytes...)
	*p = append(*p, m)
	return api.OK
}

func (p *plain) send(from, to post.Place, m api.Msg) api.Errno {
	b, e := pack.Write(m)
	if e != api.OK {
		return e
	}
	return p.put(post.Mail{From: from, To: to, Bytes: b})
}

func (p *plain) take(i int) (post.Mail, api.Errno) {
	if i < 0 || i >= len(*p) {
		return post.Mail{}, api.ErrMissing
	}
	var rest plain
	m := (*p)[i]
	for j, other := range *p {
		if j != i {
			rest = append(rest, other)
		}
	}
	*p = rest
	return m, api.OK
}

func (p *plain) twice(i int) api.Errno {
	if i < 0 || i >= len(*p) {
		return api.ErrMissing
	}
	return p.put((*p)[i])
}

// alike: are two the same message?
func alike(a, b post.Mail) bool {
	return a.From == b.From && a.To == b.To && bytes.Equal(a.Bytes, b.Bytes)
}

// all: what a post goes through, if its numbers are from 0 on.
func all(t *testing.T, what string, p *post.Post) plain {
	t.Helper()
	var list plain
	for i, m := range p.All() {
		if i != len(list) {
			t.Errorf("%s: the number %d at %d", what, i, len(list))
		}
		list = append(list, m)
	}
	return list
}

// same: is a post as the plain one?
func same(t *testing.T, what string, p *post.Post, want plain) {
	t.Helper()
	if p.Len() != len(want) {
		t.Errorf("%s: %d are on their way, want %d", what, p.Len(), len(want))
	}
	if got := all(t, what, p); !slices.EqualFunc(got, want, alike) {
		t.Errorf("%s: All: %v, want %v", what, got, want)
	}
}

// nobody and the others are places.
var (
	nobody = post.Place{}
	keeper = post.Place{Number: 1}
	buyer  = post.Place{Client: true, Number: 2}
)

// mail: a message with some text.
func mail(from, to post.Place, text string) post.Mail {
	return post.Mail{From: from, To: to, Bytes: []byte(text)}
}

// filled: a post that has so many, each unlike the others, and the plain one.
func filled(t *testing.T, count int) (*post.Post, plain) {
	t.Helper()
	p, q := &post.Post{}, plain{}
	for i := range count {
		m := mail(post.Place{Number: i}, post.Place{Client: i%2 == 0, Number: -i}, string([]byte{byte(i), byte(i >> 8), 'x'}))
		if e, f := p.Put(m), q.put(m); e != api.OK || f != api.OK {
			t.Fatalf("Put of the %dth: %v", i, e)
		}
	}
	return p, q
}
