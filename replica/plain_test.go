package replica_test

import (
	"crypto/sha256"

	"scrivener/api"
)

// leaf: an entry's, written out.
func leaf(b []byte) api.ID {
	return sha256.Sum256(append([]byte{0}, b...))
}

// root: of leaves, written out.
func root(leaves []api.ID) api.ID {
	switch len(leaves) {
	case 0:
		return sha256.Sum256(nil)
	case 1:
		return leaves[0]
	}
	k := 1
	for 2*k < len(leaves) {
		k *= 2
	}
	left, right := root(leaves[:k]), root(leaves[k:])
	return sha256.Sum256(append(append([]byte{1}, left[:]...), right[:]...))
}

// link: of a size in leaves, written out.
func link(leaves []api.ID, size int, whole bool) []api.ID {
	n := len(leaves)
	if size == n {
		if whole {
			return nil
		}
		return []api.ID{root(leaves)}
	}
	k := 1
	for 2*k < n {
		k *= 2
	}
	if size <= k {
		return append(link(leaves[:k], size, whole), root(leaves[k:]))
	}
	return append(link(leaves[k:], size-k, false), root(leaves[:k]))
}
