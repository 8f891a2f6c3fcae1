package sum_test

import (
	"bytes"
	"crypto/sha256"
	"encoding/binary"
	"encoding/hex"
	"slices"
	"testing"

	"scrivener/api"
	"scrivener/sum"
)

// some: so many bytes, of which no two runs are alike.
func some(n int) []byte {
	b := make([]byte, n)
	x := uint32(n + 1)
	for i := range b {
		x = x*1664525 + 1013904223
		b[i] = byte(x >> 24)
	}
	return b
}

// filledUp: bytes filled up as FIPS 180-4, 5.1.1 says, written out without blocks.
func filledUp(b []byte) []byte {
	out := append(slices.Clone(b), 128)
	for len(out)%64 != 56 {
		out = append(out, 0)
	}
	return binary.BigEndian.AppendUint64(out, uint64(len(b))*8)
}

func joined(parts ...[]byte) []byte {
	var out []byte
	for b := range sum.Blocks(parts...) {
		out = append(out, b[:]...)
	}
	return out
}

func TestBlocksAreFilledUp(t *testing.T) { // P1.1
	for n := range 260 {
		b := some(n)
		if !bytes.Equal(joined(b), filledUp(b)) {
			t.Errorf("the blocks of %d bytes", n)
		}
	}
	if !bytes.Equal(joined(), filledUp(nil)) || !bytes.Equal(joined(nil, nil), filledUp(nil)) {
		t.Error("the blocks of no part, and of empty parts")
	}
	for _, n := range []int{8191, 8192, 1 << 13, 1<<21 - 1, 1 << 21} { // where another byte of the count of bits is needed
		b := some(n)
		if !bytes.Equal(joined(b), filledUp(b)) {
			t.Errorf("the blocks of %d bytes", n)
		}
	}
}

func TestBlocksGoOverTheSeamsOfParts(t *testing.T) { // P1.1
	b := some(200)
	want := filledUp(b)
	for i := range 201 {
		for j := i; j <= 200; j += 7 {
			if !bytes.Equal(joined(b[:i], b[i:j], nil, b[j:]), want) {
				t.Fatalf("the blocks of parts cut at %d and %d", i, j)
			}
		}
	}
	single := make([][]byte, len(b))
	for i := range b {
		single[i] = b[i : i+1]
	}
	if !bytes.Equal(joined(single...), want) {
		t.Error("the blocks of parts of one byte")
	}
}

func TestBlocksMayBeLeft(t *testing.T) { // P1, P1.1
	for _, n := range []int{0, 55, 56, 63, 64, 65, 119, 120, 128, 500} {
		b := some(n)
		want := filledUp(b)
		for stop := 1; stop <= len(want)/64; stop++ {
			seen := 0
			for block := range sum.Blocks(b[:n/3], b[n/3:]) {
				if !bytes.Equal(block[:], want[seen*64:seen*64+64]) {
					t.Errorf("block %d of %d bytes", seen, n)
				}
				if seen++; seen == stop {
					break
				}
			}
			if seen != stop {
				t.Errorf("of %d bytes %d blocks were gone through, not %d", n, seen, stop)
			}
		}
	}
}

func TestBlocksCanBeGoneThroughAgain(t *testing.T) { // P1.1
	b := some(150)
	it := sum.Blocks(b)
	for range it {
		break
	}
	for range 2 {
		var out []byte
		for block := range it {
			for range it { // and within itself
				break
			}
			out = append(out, block[:]...)
		}
		if !bytes.Equal(out, filledUp(b)) {
			t.Error("another loop goes through other blocks")
		}
	}
}

func TestBlocksKeepNothing(t *testing.T) { // P2: what is handed in is not kept, and blocks are new memory
	b := some(150)
	want := filledUp(b)
	parts := [][]byte{b[:70:75], b[70:]}
	it := sum.Blocks(parts...)
	clear(parts)
	var out []byte
	for block := range it {
		clear(b)
		out = append(out, block[:]...)
		clear(block[:])
	}
	if !bytes.Equal(out, want) {
		t.Error("who changes what was handed in changes blocks")
	}
}

func TestOf(t *testing.T) { // P1.1
	for s, want := range map[string]string{
		"":    "e3b0c44298fc1c149afbf4c8996fb92427ae41e4649b934ca495991b7852b855",
		"abc": "ba7816bf8f01cfea414140de5dae2223b00361a396177a9cb410ff61f20015ad",
		"abcdbcdecdefdefgefghfghighijhijkijkljklmklmnlmnomnopnopq": "248d6a61d20638b8e5c026930c3e6039a33ce45964ff2167f6ecedd419db06c1",
	} {
		if id := sum.Of([]byte(s)); hex.EncodeToString(id[:]) != want {
			t.Errorf("the sum of %q: %x", s, id)
		}
	}
	if sum.Of() != sum.Of(nil, []byte{}) || sum.Of() != api.ID(sha256.Sum256(nil)) {
		t.Error("the sum of no part")
	}
	for n := range 300 {
		b := some(n)
		want := api.ID(sha256.Sum256(b))
		if sum.Of(b) != want || sum.Of(b[:n/2], nil, b[n/2:]) != want {
			t.Errorf("the sum of %d bytes", n)
		}
	}
}

func TestOfMuch(t *testing.T) { // P1.1: the count of bits needs more than four bytes
	part := some(1 << 20)
	parts := slices.Repeat([][]byte{part}, 512)
	h := sha256.New()
	for _, p := range parts {
		h.Write(p)
	}
	if id := sum.Of(parts...); !bytes.Equal(id[:], h.Sum(nil)) {
		t.Errorf("the sum of 2^29 bytes: %x", id)
	}
}

func TestLeafAndNode(t *testing.T) { // P1.2
	for _, n := range []int{0, 1, 54, 55, 63, 64, 300} {
		b := some(n)
		if sum.Leaf(b) != api.ID(sha256.Sum256(append([]byte{0}, b...))) {
			t.Errorf("the leaf of %d bytes", n)
		}
	}
	one, two := sum.Of([]byte("1")), sum.Of([]byte("2"))
	want := append([]byte{1}, one[:]...)
	want = append(want, two[:]...)
	if sum.Node(one, two) != api.ID(sha256.Sum256(want)) {
		t.Error("a node")
	}
	if sum.Node(one, two) == sum.Node(two, one) || sum.Leaf(want[1:]) == sum.Node(one, two) {
		t.Error("a node is another one's, or a leaf")
	}
}

// forPurpose: the sum for a purpose as the document writes it out.
func forPurpose(purpose string, parts ...[]byte) api.ID {
	b := append([]byte(purpose), 0)
	for _, p := range parts {
		b = binary.BigEndian.AppendUint32(b, uint32(len(p)))
		b = append(b, p...)
	}
	return sha256.Sum256(b)
}

func TestFor(t *testing.T) { // P1.2
	for _, parts := range [][][]byte{
		{}, {nil}, {nil, nil}, {some(1)}, {some(0), some(2), some(0)},
		{some(255), some(256), some(65535), some(65536), some(66051)},
		{some(1<<24 + 1)},
	} {
		for _, purpose := range []string{"", "p", "a longer purpose\x00with a nought", "\xff"} {
			if sum.For(purpose, parts...) != forPurpose(purpose, parts...) {
				t.Errorf("the sum of %d parts for %q", len(parts), purpose)
			}
		}
	}
	if sum.For("p", []byte("ab")) == sum.For("p", []byte("a"), []byte("b")) || sum.For("p") == sum.For("p", nil) {
		t.Error("two lists of parts with one sum")
	}
}

func TestNothingIsChanged(t *testing.T) { // P2: neither what is handed in, nor its spare room
	b := some(400)
	was := slices.Clone(b)
	parts := [][]byte{b[:10], b[100:190], b[300:300]}
	spare := parts[:2]
	for range 2 {
		sum.Of(spare...)
		sum.Leaf(b[:10])
		sum.For("p", spare...)
		for block := range sum.Blocks(spare...) {
			clear(block[:])
		}
	}
	if !bytes.Equal(b, was) {
		t.Error("what was handed in is changed")
	}
	if &parts[0][0] != &b[0] || &parts[1][0] != &b[100] || parts[2] == nil || len(parts[2]) != 0 {
		t.Error("the list of parts is changed")
	}
}
