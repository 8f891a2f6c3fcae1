// Package sum sums bytes: SHA-256, block by block.
package sum

import (
	"iter"
	"slices"

	"scrivener/api"
)

// Blocks: the blocks of bytes, the last ones filled up as the standard says.
//
// The bytes are copied when it is called: the iterator outlives the call, and
// what is handed in is not kept.
func Blocks(parts ...[]byte) iter.Seq[[64]byte] {
	return blocks(slices.Concat(parts...))
}

// Of: the sum of all parts, one behind the other.
func Of(parts ...[]byte) api.ID {
	s := first
	for block := range blocks(parts...) {
		s = mix(s, block)
	}
	return id(s)
}

// Leaf: the sum of an entry of a tree.
func Leaf(entry []byte) api.ID {
	return Of([]byte{0}, entry)
}

// Node: the sum of two sums of a tree.
func Node(left, right api.ID) api.ID {
	return Of([]byte{1}, left[:], right[:])
}

// For: the sum of parts for a purpose, each with its length ahead, so that no two lists of parts are summed alike.
func For(purpose string, parts ...[]byte) api.ID {
	all := make([][]byte, 0, 2+2*len(parts))
	all = append(all, []byte(purpose), []byte{0})
	for _, part := range parts {
		all = append(all, length(len(part)), part)
	}
	return Of(all...)
}

// length: four bytes of a length, the highest first.
func length(n int) []byte {
	return []byte{byte(n >> 24), byte(n >> 16), byte(n >> 8), byte(n)}
}
