package pack

import "iter"

// lengthSize is how many bytes a run has ahead, of how many there are.
const lengthSize = 3

// appendRun puts a run of bytes behind others.
func appendRun(to, b []byte) []byte {
	n := len(b)
	to = append(to, byte(n>>16), byte(n>>8), byte(n))
	return append(to, b...)
}

// cutRun: what the run has with which bytes begin, and what is behind it; false: it isn't there whole.
func cutRun(b []byte) (run, rest []byte, whole bool) {
	if len(b) < lengthSize {
		return nil, nil, false
	}
	n := int(b[0])<<16 | int(b[1])<<8 | int(b[2])
	b = b[lengthSize:]
	if len(b) < n {
		return nil, nil, false
	}
	return b[:n], b[n:], true
}

// runsIn goes through the runs of which bytes are made; one that isn't there whole (false) is the last one.
func runsIn(b []byte) iter.Seq2[[]byte, bool] {
	return func(yield func([]byte, bool) bool) {
		for len(b) > 0 {
			run, rest, whole := cutRun(b)
			if !yield(run, whole) || !whole {
				return
			}
			b = rest
		}
	}
}
