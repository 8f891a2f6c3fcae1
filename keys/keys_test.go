package keys_test

import (
	"bytes"
	"crypto/sha256"
	"encoding/binary"
	"math"
	"math/rand"
	"slices"
	"testing"

	"scrivener/api"
	"scrivener/keys"
	"scrivener/once"
)

// leafOf: what the tree has lowest for a key's Public, written out.
func leafOf(public api.ID) api.ID {
	return sha256.Sum256(append(binary.BigEndian.AppendUint32([]byte("leaf\x00"), 32), public[:]...))
}

func nodeOf(left, right api.ID) api.ID {
	return sha256.Sum256(append(append([]byte{1}, left[:]...), right[:]...))
}

// treeOf: the tree of a seed, written out, the lowest sums first.
func treeOf(seed api.ID) [][]api.ID {
	row := []api.ID{}
	for number := range 8 {
		row = append(row, leafOf(once.Key{Seed: seed, Number: number}.Public()))
	}
	rows := [][]api.ID{row}
	for len(row) > 1 {
		above := []api.ID{}
		for i := 0; i < len(row); i += 2 {
			above = append(above, nodeOf(row[i], row[i+1]))
		}
		row = above
		rows = append(rows, row)
	}
	return rows
}

// topOf: the top to which a signature leads, written out; each case of a number by itself.
func topOf(s keys.Sig, text []byte) api.ID {
	p, at := s.Path, leafOf(s.Sig.Shows(text))
	switch s.Number {
	case 0:
		return nodeOf(nodeOf(nodeOf(at, p[0]), p[1]), p[2])
	case 1:
		return nodeOf(nodeOf(nodeOf(p[0], at), p[1]), p[2])
	case 2:
		return nodeOf(nodeOf(p[1], nodeOf(at, p[0])), p[2])
	case 3:
		return nodeOf(nodeOf(p[1], nodeOf(p[0], at)), p[2])
	case 4:
		return nodeOf(p[2], nodeOf(nodeOf(at, p[0]), p[1]))
	case 5:
		return nodeOf(p[2], nodeOf(nodeOf(p[0], at), p[1]))
	case 6:
		return nodeOf(p[2], nodeOf(p[1], nodeOf(at, p[0])))
	}
	return nodeOf(p[2], nodeOf(p[1], nodeOf(p[0], at)))
}

var seeds = []api.ID{{}, {1}, {31: 1}, sha256.Sum256([]byte("seed"))}

// outside: numbers that no key has.
var outside = []int{-1, 8, 9, -8, 16, 255, 256, 264, 1 << 32, 1<<32 + 1, math.MinInt, math.MaxInt}

func TestLimits(t *testing.T) { // P4.1, P4.4
	if keys.Depth != 3 || keys.Count != 8 || keys.Size != 4193 || len(keys.Sig{}.Path) != 3 {
		t.Error("the limits")
	}
}

func TestPublic(t *testing.T) { // P4.1
	for _, seed := range seeds {
		r := keys.New(seed)
		if r.Public() != treeOf(seed)[3][0] || r.Public() != r.Public() || r.Public() != keys.New(seed).Public() {
			t.Errorf("Public of the seed %x", seed)
		}
	}
	if keys.New(seeds[0]).Public() == keys.New(seeds[1]).Public() {
		t.Error("two seeds with one public key")
	}
}

func TestSign(t *testing.T) { // P4.2
	for _, seed := range seeds {
		r, tree := keys.New(seed), treeOf(seed)
		for _, number := range []int{7, 0, 1, 2, 3, 4, 5, 6} {
			for _, text := range [][]byte{nil, []byte("a"), make([]byte, 5000)} {
				s, e := r.Sign(number, text)
				want := keys.Sig{
					Sig:    once.Key{Seed: seed, Number: number}.Sign(text),
					Number: number,
					Path:   [3]api.ID{tree[0][number^1], tree[1][number/2^1], tree[2][number/4^1]},
				}
				if e != api.OK || s != want {
					t.Errorf("Sign with the key %d of the seed %x: %v", number, seed, e)
				}
			}
		}
	}
}

func TestSignWithNoKey(t *testing.T) { // P4.2, P2
	r := keys.New(api.ID{1})
	public := r.Public()
	for _, number := range outside {
		if s, e := r.Sign(number, []byte("a")); e != api.ErrRange || s != (keys.Sig{}) {
			t.Errorf("Sign with the key %d: %v", number, e)
		}
	}
	s, _ := r.Sign(3, []byte("a"))
	u, _ := keys.New(api.ID{1}).Sign(3, []byte("a"))
	if s != u || r.Public() != public {
		t.Error("a refused call has changed the keys")
	}
}

func TestOneNumberMaySignTwice(t *testing.T) { // P4.1
	r := keys.New(api.ID{1})
	for _, text := range []string{"a", "b", "a", ""} {
		s, e := r.Sign(5, []byte(text))
		if e != api.OK || s.Check(r.Public(), []byte(text)) != api.OK {
			t.Errorf("the key 5 for %q: %v", text, e)
		}
	}
}

func TestCheck(t *testing.T) { // P4.3, and the chapter's example
	for _, seed := range seeds {
		r := keys.New(seed)
		for number := range 8 {
			s, _ := r.Sign(number, []byte("a"))
			if e := s.Check(r.Public(), []byte("a")); e != api.OK {
				t.Errorf("what the key %d signed: %v", number, e)
			}
			for _, text := range [][]byte{[]byte("b"), nil, []byte("a\x00")} {
				if e := s.Check(r.Public(), text); e != api.ErrSign {
					t.Errorf("what the key %d signed, of %q: %v", number, text, e)
				}
			}
			for _, public := range []api.ID{{}, s.Shows([]byte("a")), s.Path[2], keys.New(api.ID{99}).Public()} {
				if e := s.Check(public, []byte("a")); e != api.ErrSign {
					t.Errorf("what the key %d signed, under another public key: %v", number, e)
				}
			}
		}
	}
}

func TestCheckOfAnotherNumber(t *testing.T) { // P4.3
	r := keys.New(api.ID{1})
	for number := range 8 {
		s, _ := r.Sign(number, []byte("a"))
		for another := range 8 {
			s.Number = another
			want := api.ErrSign
			if another == number {
				want = api.OK
			}
			if e := s.Check(r.Public(), []byte("a")); e != want {
				t.Errorf("what the key %d signed, as of %d: %v", number, another, e)
			}
		}
		for _, n := range outside {
			s.Number = n
			if s.Check(r.Public(), []byte("a")) != api.ErrRange || s.Check(api.ID{}, []byte("b")) != api.ErrRange {
				t.Errorf("what the key %d signed, as of %d", number, n)
			}
		}
	}
}

func TestCheckOfWhatWasChanged(t *testing.T) { // P4.3
	r := keys.New(api.ID{1})
	for number := range 8 {
		s, _ := r.Sign(number, []byte("a"))
		b := s.Bytes()
		for at := 1 + number; at < len(b); at += 29 {
			c := slices.Clone(b)
			c[at] ^= 1 << (at % 8)
			u, _ := keys.Read(c)
			if e := u.Check(r.Public(), []byte("a")); e != api.ErrSign {
				t.Errorf("what the key %d signed, with another byte %d: %v", number, at, e)
			}
		}
		for level := range 3 {
			for at := range 32 {
				u := s
				u.Path[level][at] ^= 64
				if e := u.Check(r.Public(), []byte("a")); e != api.ErrSign {
					t.Errorf("what the key %d signed, with another way: %v", number, e)
				}
			}
		}
	}
}

// drawn: the bytes of some signature, of any sums.
func drawn(r *rand.Rand) []byte {
	b := make([]byte, keys.Size)
	r.Read(b)
	b[0] %= 8
	return b
}

func TestCheckOfAnySignature(t *testing.T) { // P4.3, P1: it is one under the public key to which it leads, and no other
	r := rand.New(rand.NewSource(5))
	for range 64 {
		s, e := keys.Read(drawn(r))
		top := topOf(s, []byte("text"))
		if e != api.OK || s.Check(top, []byte("text")) != api.OK || s.Check(top, []byte("texts")) != api.ErrSign {
			t.Errorf("a signature as of the key %d", s.Number)
		}
		top[r.Intn(32)] ^= 1
		if s.Check(top, []byte("text")) != api.ErrSign {
			t.Errorf("a signature as of the key %d, under another public key", s.Number)
		}
	}
	zero := keys.Sig{}
	if zero.Check(topOf(zero, nil), nil) != api.OK || zero.Check(api.ID{}, nil) != api.ErrSign {
		t.Error("the zero signature")
	}
}

// bytesOf: a signature as bytes, written out.
func bytesOf(s keys.Sig) []byte {
	b := []byte{byte(s.Number)}
	for bit := range 64 {
		b = append(b, s.Shown[bit][:]...)
		b = append(b, s.Other[bit][:]...)
	}
	for _, id := range s.Path {
		b = append(b, id[:]...)
	}
	return b
}

func TestBytes(t *testing.T) { // P4.4
	r := keys.New(api.ID{6})
	for number := range 8 {
		s, _ := r.Sign(number, []byte("a"))
		b := s.Bytes()
		if len(b) != 4193 || !bytes.Equal(b, bytesOf(s)) {
			t.Errorf("the bytes of what the key %d signed", number)
		}
		if u, e := keys.Read(b); e != api.OK || u != s {
			t.Errorf("the bytes of what the key %d signed, read: %v", number, e)
		}
	}
	zero := keys.Sig{}
	if !bytes.Equal(zero.Bytes(), make([]byte, 4193)) {
		t.Error("the bytes of the zero signature")
	}
}

func TestBytesOfNoKey(t *testing.T) { // P1: no bytes stand for such a number
	s, _ := keys.New(api.ID{6}).Sign(1, []byte("a"))
	for _, number := range outside {
		s.Number = number
		if len(s.Bytes()) != 0 {
			t.Errorf("the bytes of a signature as of the key %d", number)
		}
	}
}

func TestRead(t *testing.T) { // P4.4
	r := rand.New(rand.NewSource(6))
	for number := range 8 {
		b := drawn(r)
		b[0] = byte(number)
		s, e := keys.Read(b)
		if e != api.OK || s.Number != number || !bytes.Equal(s.Bytes(), b) || !bytes.Equal(bytesOf(s), b) {
			t.Errorf("Read of bytes with the number %d: %v", number, e)
		}
	}
}

func TestReadOfWrongBytes(t *testing.T) { // P4.4, and the order of its errors
	for _, c := range []struct {
		size  int
		first byte
		want  api.Errno
	}{
		{1, 0, api.ErrShort}, {1, 8, api.ErrShort}, {32, 0, api.ErrShort},
		{4192, 0, api.ErrShort}, {4192, 7, api.ErrShort}, {4192, 8, api.ErrShort}, {4192, 255, api.ErrShort},
		{4194, 0, api.ErrRest}, {4194, 7, api.ErrRest}, {4194, 8, api.ErrRest}, {4194, 255, api.ErrRest},
		{8386, 0, api.ErrRest}, {1 << 20, 9, api.ErrRest},
		{4193, 0, api.OK}, {4193, 7, api.OK},
		{4193, 8, api.ErrRange}, {4193, 9, api.ErrRange}, {4193, 128, api.ErrRange}, {4193, 255, api.ErrRange},
	} {
		b := bytes.Repeat([]byte{3}, c.size)
		b[0] = c.first
		s, e := keys.Read(b)
		if e != c.want {
			t.Errorf("Read of %d bytes, first %d: %v, not %v", c.size, c.first, e, c.want)
		}
		if e != api.OK && s != (keys.Sig{}) {
			t.Errorf("Read of %d bytes, first %d: a signature beside an error", c.size, c.first)
		}
	}
	for _, b := range [][]byte{nil, {}} {
		if s, e := keys.Read(b); e != api.ErrShort || s != (keys.Sig{}) {
			t.Errorf("Read of no bytes: %v", e)
		}
	}
}

func TestNothingIsChangedOrShared(t *testing.T) { // P2
	r := keys.New(api.ID{7})
	public := r.Public()
	text := []byte("a text and its spare room")
	was := slices.Clone(text)
	s, _ := r.Sign(2, text[:6])
	s.Check(public, text[:6])
	b, c := s.Bytes(), s.Bytes()
	room := append(slices.Clone(b), 1, 2, 3)
	u, _ := keys.Read(room[:keys.Size])
	if !bytes.Equal(text, was) || !bytes.Equal(room, append(slices.Clone(c), 1, 2, 3)) {
		t.Error("what was handed in is changed")
	}
	clear(text)
	clear(room)
	clear(b[:cap(b)])
	if u != s || !bytes.Equal(c, bytesOf(s)) || s.Check(public, []byte("a text")) != api.OK {
		t.Error("what was handed in is kept, or two answers share memory")
	}
	u.Path, u.Shown = [3]api.ID{}, [64]api.ID{}
	v, _ := r.Sign(2, []byte("a text"))
	if v != s || r.Public() != public {
		t.Error("what is answered shares memory with the keys")
	}
}
