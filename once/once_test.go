package once_test

import (
	"bytes"
	"crypto/sha256"
	"encoding/binary"
	"encoding/hex"
	"math"
	"math/rand"
	"slices"
	"testing"

	"scrivener/api"
	"scrivener/once"
)

// forPurpose: layer 1's For, written out.
func forPurpose(purpose string, parts ...[]byte) api.ID {
	b := append([]byte(purpose), 0)
	for _, p := range parts {
		b = binary.BigEndian.AppendUint32(b, uint32(len(p)))
		b = append(b, p...)
	}
	return sha256.Sum256(b)
}

// secretOf: the secret of a bit and a side, written out; low is what the number comes to in two bytes.
func secretOf(seed api.ID, low uint16, bit, side int) api.ID {
	return forPurpose("secret", seed[:], append(binary.BigEndian.AppendUint16(nil, low), byte(bit), byte(side)))
}

func hidden(s api.ID) api.ID { return forPurpose("hide", s[:]) }

// publicOf: the public key of a seed and a number, written out.
func publicOf(seed api.ID, low uint16) api.ID {
	var all []byte
	for bit := range 64 {
		for side := range 2 {
			id := hidden(secretOf(seed, low, bit, side))
			all = append(all, id[:]...)
		}
	}
	return forPurpose("public", all)
}

// word: the bits of a text as one number, the first one highest.
func word(text []byte) uint64 {
	id := forPurpose("text", text)
	return binary.BigEndian.Uint64(id[:8])
}

func sideOf(text []byte, bit int) int { return int(word(text) >> (63 - bit) & 1) }

// showsOf: what a signature shows of a text, written out.
func showsOf(s once.Sig, text []byte) api.ID {
	var all []byte
	for bit := range 64 {
		pair := [2]api.ID{s.Other[bit], s.Other[bit]}
		pair[sideOf(text, bit)] = hidden(s.Shown[bit])
		all = append(all, pair[0][:]...)
		all = append(all, pair[1][:]...)
	}
	return forPurpose("public", all)
}

// numbers: those of keys, and what they come to in two bytes.
var numbers = map[int]uint16{
	0: 0, 1: 1, 2: 2, 7: 7, 255: 255, 256: 256, 258: 258, 65535: 65535, 65536: 0, 65537: 1, 1<<24 + 513: 513,
	-1: 65535, -2: 65534, -256: 65280, -65536: 0, math.MaxInt: 65535, math.MinInt: 0,
}

func bytesOf(t *testing.T, s string) []byte {
	b, err := hex.DecodeString(s)
	if err != nil {
		t.Fatal(err)
	}
	return b
}

// alike: two texts with the same 64 bits; almost: two of which only the last bit differs.
func alike(t *testing.T) (a, b []byte) {
	return bytesOf(t, "aa4cfeb0ffdbf43a"), bytesOf(t, "9758176f466961e0")
}

func almost(t *testing.T) (a, b []byte) {
	return bytesOf(t, "9fb3ebdd2fca10c8"), bytesOf(t, "270ae368e56c17a0")
}

func TestBits(t *testing.T) { // P3.2
	if once.Bits != 64 || len(once.Sig{}.Shown) != 64 || len(once.Sig{}.Other) != 64 {
		t.Error("how many bits are signed")
	}
}

func TestHide(t *testing.T) { // P3.1
	for _, id := range []api.ID{{}, {1}, {31: 1}, sha256.Sum256([]byte("x"))} {
		if once.Hide(id) != hidden(id) {
			t.Errorf("Hide of %x", id)
		}
	}
}

func TestPublic(t *testing.T) { // P3.1, P1: of a number only the two lowest bytes count, whatever it is
	for number, low := range numbers {
		for _, seed := range []api.ID{{}, {1}, {31: 9}, sha256.Sum256([]byte("seed"))} {
			if (once.Key{Seed: seed, Number: number}).Public() != publicOf(seed, low) {
				t.Errorf("Public of the seed %x and the number %d", seed, number)
			}
		}
	}
}

func TestPublicsAreUnlike(t *testing.T) { // P3.1
	seen := map[api.ID]bool{}
	for number := range 20 {
		seen[once.Key{Seed: api.ID{1}, Number: number}.Public()] = true
		seen[once.Key{Seed: api.ID{31: 1}, Number: number}.Public()] = true
	}
	if len(seen) != 40 {
		t.Errorf("40 keys have %d public keys", len(seen))
	}
}

// texts: some, the empty one and long ones among them.
func texts() [][]byte {
	out := [][]byte{nil, {}, {0}, {0, 0}, []byte("a"), []byte("b"), []byte("text\x00"), make([]byte, 1<<17)}
	r := rand.New(rand.NewSource(3))
	for n := range 40 {
		b := make([]byte, n*3)
		r.Read(b)
		out = append(out, b)
	}
	return out
}

func TestSign(t *testing.T) { // P3.2
	for number, low := range numbers {
		seed := api.ID{byte(number), 5}
		for _, text := range texts() {
			s := once.Key{Seed: seed, Number: number}.Sign(text)
			for bit := range 64 {
				side := sideOf(text, bit)
				if s.Shown[bit] != secretOf(seed, low, bit, side) {
					t.Fatalf("Shown of the bit %d of %.20x with the number %d", bit, text, number)
				}
				if s.Other[bit] != hidden(secretOf(seed, low, bit, 1-side)) {
					t.Fatalf("Other of the bit %d of %.20x with the number %d", bit, text, number)
				}
			}
		}
	}
}

func TestShowsWhoSigned(t *testing.T) { // P3.3, and the chapter's example
	k := once.Key{Seed: api.ID{1}, Number: 2}
	all := texts()[1:]
	for _, text := range all {
		s := k.Sign(text)
		if s.Shows(text) != k.Public() {
			t.Errorf("what signs %.20x shows another key", text)
		}
		for _, another := range all[:6] {
			if (s.Shows(another) == k.Public()) != bytes.Equal(text, another) {
				t.Errorf("what signs %.20x, of %.20x", text, another)
			}
		}
		for _, n := range []int{1, 3, -2} {
			if s.Shows(text) == (once.Key{Seed: api.ID{1}, Number: n}).Public() {
				t.Error("what one key signs shows another one")
			}
		}
	}
}

func TestShowsOfAnySignature(t *testing.T) { // P3.3, P1
	r := rand.New(rand.NewSource(4))
	sigs := []once.Sig{{}, once.Key{}.Sign(nil)}
	for range 5 {
		var s once.Sig
		for bit := range 64 {
			r.Read(s.Shown[bit][:])
			r.Read(s.Other[bit][:])
		}
		sigs = append(sigs, s)
	}
	for i, s := range sigs {
		for _, text := range texts() {
			if s.Shows(text) != showsOf(s, text) {
				t.Fatalf("what the signature %d shows of %.20x", i, text)
			}
		}
	}
}

func TestEachSumCounts(t *testing.T) { // P3.3: whoever changes anything in a signature shows another key
	k := once.Key{Seed: api.ID{8}, Number: 3}
	text := []byte("a text")
	s, public := k.Sign(text), k.Public()
	for bit := range 64 {
		for at := range 32 {
			u := s
			u.Shown[bit][at] ^= 1
			v := s
			v.Other[bit][at] ^= 128
			if at%11 == bit%11 && (u.Shows(text) == public || v.Shows(text) == public) {
				t.Errorf("byte %d of the bit %d counts nothing", at, bit)
			}
		}
		u := s
		u.Shown[bit], u.Other[bit] = s.Other[bit], s.Shown[bit]
		if u.Shows(text) == public {
			t.Errorf("the sides of the bit %d count nothing", bit)
		}
	}
}

func TestForged(t *testing.T) { // P3.4
	all := texts()[1:]
	met := map[int]bool{}
	for _, first := range all {
		for _, second := range all {
			want, differ := 0, false
			for bit := 63; bit >= 0; bit-- {
				if sideOf(first, bit) != sideOf(second, bit) {
					want, differ = bit, true
				}
			}
			if bit, ok := once.Forged(first, second); bit != want || ok != differ {
				t.Errorf("Forged of %.20x and %.20x: %d %v, not %d %v", first, second, bit, ok, want, differ)
			}
			if differ {
				met[want] = true
			}
		}
	}
	if !met[0] || !met[1] || !met[5] || !met[8] {
		t.Errorf("only these bits were met: %v", met)
	}
	if bit, ok := once.Forged(nil, []byte{}); bit != 0 || ok {
		t.Error("Forged of no text and of one without bytes")
	}
}

func TestForgedOfNoneAndOfTheLast(t *testing.T) { // P3.4: where it is only just none, and only just one
	a, b := alike(t)
	if bytes.Equal(a, b) || word(a) != word(b) {
		t.Fatal("these aren't two texts with the same bits")
	}
	for _, pair := range [][2][]byte{{a, b}, {b, a}, {a, a}} {
		if bit, ok := once.Forged(pair[0], pair[1]); bit != 0 || ok {
			t.Errorf("Forged of texts with the same bits: %d %v", bit, ok)
		}
	}
	k := once.Key{Seed: api.ID{4}, Number: 6}
	if k.Sign(a) != k.Sign(b) || k.Sign(a).Shows(b) != k.Public() {
		t.Error("of texts with the same bits there is one signature")
	}
	a, b = almost(t)
	if word(a)^word(b) != 1 {
		t.Fatal("these aren't two texts of which only the last bit differs")
	}
	for _, pair := range [][2][]byte{{a, b}, {b, a}} {
		if bit, ok := once.Forged(pair[0], pair[1]); bit != 63 || !ok {
			t.Errorf("Forged of texts of which only the last bit differs: %d %v", bit, ok)
		}
	}
	if k.Sign(a).Shows(b) == k.Public() {
		t.Error("a signature shows its key of a text whose last bit differs")
	}
}

func TestSecondSignatureTellsMore(t *testing.T) { // P3.2, P3.4: at the bit that is Forged, the second shows what the first hid
	k := once.Key{Seed: api.ID{2}, Number: 1}
	for i := range 20 {
		first, second := []byte{byte(i)}, []byte{byte(i), 1}
		bit, ok := once.Forged(first, second)
		s, u := k.Sign(first), k.Sign(second)
		if !ok || once.Hide(u.Shown[bit]) != s.Other[bit] || once.Hide(s.Shown[bit]) != u.Other[bit] {
			t.Errorf("Forged of %x and %x: %d %v", first, second, bit, ok)
		}
		if bit > 0 && s.Shown[bit-1] != u.Shown[bit-1] {
			t.Errorf("Forged of %x and %x: not the first", first, second)
		}
	}
}

func TestNothingIsChangedOrKept(t *testing.T) { // P2
	b := []byte("a text and its spare room")
	was := slices.Clone(b)
	text := b[:6]
	k := once.Key{Seed: api.ID{1}, Number: 2}
	s := k.Sign(text)
	shown := s.Shows(text)
	once.Forged(text, b[3:9])
	if !bytes.Equal(b, was) {
		t.Error("a text is changed")
	}
	clear(b)
	if s != k.Sign([]byte("a text")) || shown != k.Public() || s.Shows([]byte("a text")) != shown {
		t.Error("a text is kept")
	}
	u := s
	u.Shown[0], u.Other[63] = api.ID{}, api.ID{}
	if s != k.Sign([]byte("a text")) {
		t.Error("two signatures share memory")
	}
}
