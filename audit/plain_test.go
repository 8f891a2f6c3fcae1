package audit_test

import (
	"bytes"
	"crypto/sha256"
	"math"
	"slices"
	"testing"

	"scrivener/api"
	"scrivener/audit"
	"scrivener/book"
	"scrivener/pack"
)

// far is numbers that are no Size of a list, however many are in it.
var far = []int{math.MinInt, math.MinInt32, -2, -1, 4711, math.MaxInt32, math.MaxInt}

// rootOf: the root of entries, written out.
func rootOf(entries [][]byte) api.ID {
	if len(entries) == 0 {
		return sha256.Sum256(nil)
	}
	if len(entries) == 1 {
		return sha256.Sum256(append([]byte{0}, entries[0]...))
	}
	k := 1
	for 2*k < len(entries) {
		k *= 2
	}
	left, right := rootOf(entries[:k]), rootOf(entries[k:])
	return sha256.Sum256(slices.Concat([]byte{1}, left[:], right[:]))
}

// begins: does a list begin with another one?
func begins(list, with [][]byte) bool {
	return len(list) >= len(with) && slices.EqualFunc(list[:len(with)], with, bytes.Equal)
}

// plainParts is Parts as plain as may be.
func plainParts(lists ...[][]byte) []audit.Part {
	var found []audit.Part
	for i := range lists {
		for j := i + 1; j < len(lists); j++ {
			if begins(lists[i], lists[j]) || begins(lists[j], lists[i]) {
				continue
			}
			at := 0
			for bytes.Equal(lists[i][at], lists[j][at]) {
				at++
			}
			found = append(found, audit.Part{One: i, Two: j, At: at})
		}
	}
	return found
}

// plainTwice is Twice as plain as may be.
func plainTwice(list [][]byte) (audit.Part, bool) {
	for two := range list {
		for one := range two {
			m, e := book.Check(list[one])
			n, f := book.Check(list[two])
			if e == api.OK && f == api.OK && m.Who == n.Who && m.Num == n.Num {
				return audit.Part{One: one, Two: two}, true
			}
		}
	}
	return audit.Part{}, false
}

// plainFalse is False as plain as may be.
func plainFalse(list [][]byte, heads ...book.Head) []int {
	var found []int
	for i, h := range heads {
		if h.Size < 0 || h.Size > len(list) || h.Root != rootOf(list[:h.Size]) {
			found = append(found, i)
		}
	}
	return found
}

// plainForeign is Foreign as plain as may be.
func plainForeign(list, handed [][]byte) (int, bool) {
	for i, entry := range list {
		if !slices.ContainsFunc(handed, func(other []byte) bool { return bytes.Equal(entry, other) }) {
			return i, true
		}
	}
	return 0, false
}

// texts: a list of some texts.
func texts(list ...string) [][]byte {
	var out [][]byte
	for _, text := range list {
		out = append(out, []byte(text))
	}
	return out
}

// entry: the bytes of an entry.
func entry(t *testing.T, who, num int, text string) []byte {
	t.Helper()
	b, e := book.Entry(who, num, []byte(text))
	if e != api.OK {
		t.Fatalf("Entry(%d, %d): %v", who, num, e)
	}
	return b
}

// written: the bytes of a message.
func written(t *testing.T, m api.Msg) []byte {
	t.Helper()
	b, e := pack.Write(m)
	if e != api.OK {
		t.Fatalf("Write: %v", e)
	}
	return b
}

// headOf: the head of the first so many of a list.
func headOf(list [][]byte, size int) book.Head {
	return book.Head{Height: 1, Size: size, Root: rootOf(list[:size])}
}

// roomy: the same list, each text and the list itself with spare room.
func roomy(list [][]byte) [][]byte {
	out := make([][]byte, 0, len(list)+3)
	for _, b := range list {
		out = append(out, append(make([]byte, 0, len(b)+3), b...))
	}
	return out
}

// deep: the same list in memory of its own, and what stands in its spare room.
func deep(list [][]byte) [][]byte {
	var out [][]byte
	for _, b := range list[:cap(list)] {
		out = append(out, slices.Clone(b[:cap(b)]))
	}
	return out
}

// spoil: nothing of a list is as it was, its spare room too.
func spoil(list [][]byte) {
	for i, b := range list[:cap(list)] {
		for j := range b[:cap(b)] {
			b[:cap(b)][j] ^= 0x55
		}
		list[:cap(list)][i] = nil
	}
}
