package book

import (
	"iter"
	"slices"

	"scrivener/api"
	"scrivener/pack"
)

// The kinds of messages that are entries, and lists of them.
const (
	Request = 1
	Batch   = 2
)

// Check: is it an entry's bytes?
func Check(b []byte) (api.Msg, api.Errno) {
	m, e := pack.Read(b)
	switch {
	case e != api.OK:
		return api.Msg{}, e
	case hasMore(m) || !isName(m):
		return api.Msg{}, api.ErrForm
	case len(m.Data) > MaxText:
		return api.Msg{}, api.ErrLong
	}
	return m, api.OK
}

// Entry: the bytes of an entry.
func Entry(who, num int, text []byte) ([]byte, api.Errno) {
	b, e := pack.Write(api.Msg{Kind: Request, Who: who, Num: num, Data: text})
	if e != api.OK {
		return nil, e
	}
	if _, e := Check(b); e != api.OK {
		return nil, e
	}
	return b, api.OK
}

// Join: the bytes of a batch.
func Join(list ...[]byte) ([]byte, api.Errno) {
	if len(list) > MaxBatch {
		return nil, api.ErrLong
	}
	return pack.Write(api.Msg{Kind: Batch, List: list})
}

// Split goes through the entries of a batch: of bytes that are none through nothing.
func Split(b []byte) iter.Seq2[int, []byte] {
	list := batchOf(b)
	return func(yield func(int, []byte) bool) {
		for i, entry := range list {
			if !yield(i, slices.Clone(entry)) { // each loop has its own, so that what one changes the next doesn't see
				return
			}
		}
	}
}

// batchOf: the list of a batch; none of other bytes.
func batchOf(b []byte) [][]byte {
	m, e := pack.Read(b)
	if e != api.OK || m.Kind != Batch || len(m.List) > MaxBatch {
		return nil
	}
	return m.List
}

// isName: can a message that was read, in which no number is below 0, be an entry of its Who and Num?
func isName(m api.Msg) bool {
	return m.Kind == Request && m.Who <= MaxWho && m.Num >= 1
}

// hasMore: has a message more than an entry has?
func hasMore(m api.Msg) bool {
	switch {
	case m.Height != 0, m.Round != 0, m.Valid != 0:
		return true
	case m.ID != api.ID{}:
		return true
	}
	return len(m.IDs) > 0 || len(m.List) > 0
}
