package short

import (
	"math/bits"

	"scrivener/api"
)

// The bytes with which texts begin.
const (
	entryAhead = 0
	sidesAhead = 1
)

// topText: the text whose Sum is the root of entries.
func (c Cut) topText(list [][]byte) []byte {
	switch len(list) {
	case 0:
		return nil
	case 1:
		return entryText(list[0])
	}
	left, right := halves(list)
	return sidesText(c.Root(left...), c.Root(right...))
}

// wayOf: the way of an entry that is there.
func (c Cut) wayOf(list [][]byte, at int) []api.ID {
	if len(list) == 1 {
		return nil
	}
	left, right := halves(list)
	if at < len(left) {
		return append(c.wayOf(left, at), c.Root(right...))
	}
	return append(c.wayOf(right, at-len(left)), c.Root(left...))
}

// textsOf: the texts that are summed on a path from an entry, at its place in so many, up to the top, the lowest first; none, if the path is longer or shorter than the way.
func (c Cut) textsOf(entry []byte, at, size int, path []api.ID) [][]byte {
	text := entryText(entry)
	texts := [][]byte{text}
levels:
	for last := size - 1; last > 0; at, last = at/2, last/2 {
		switch {
		case at == last && at%2 == 0: // with none beside it, it stands on the level above as it is
			continue levels
		case len(path) == 0:
			return nil
		case at%2 == 0:
			text = sidesText(c.Sum(text), path[0])
		default:
			text = sidesText(path[0], c.Sum(text))
		}
		texts, path = append(texts, text), path[1:]
	}
	if len(path) > 0 {
		return nil
	}
	return texts
}

func entryText(entry []byte) []byte { return append([]byte{entryAhead}, entry...) }

func sidesText(left, right api.ID) []byte {
	return append(append([]byte{sidesAhead}, left[:]...), right[:]...)
}

// halves: a list of two entries or more, cut behind the greatest power of two that is below their count.
func halves(list [][]byte) (left, right [][]byte) {
	k := 1 << (bits.Len(uint(len(list)-1)) - 1)
	return list[:k], list[k:]
}
