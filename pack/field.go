package pack

import (
	"bytes"
	"iter"

	"scrivener/api"
)

// The tags of the fields, in their order.
const (
	tagWho = 1 + iota
	tagHeight
	tagRound
	tagValid
	tagNum
	tagID
	tagData
	tagIDs
	tagList
)

// maxDigits is how many bytes a number has at most.
const maxDigits = 6

// field is a field of a message as bytes; run is what is there of its run, if it is there whole.
type field struct {
	tag   int
	run   []byte
	whole bool
}

// fieldsOf goes through the fields of a message that aren't zero: their tags, and what their runs have.
func fieldsOf(m api.Msg) iter.Seq2[int, []byte] {
	return func(yield func(int, []byte) bool) {
		runs := [...][]byte{
			tagWho:    writeNumber(m.Who),
			tagHeight: writeNumber(m.Height),
			tagRound:  writeNumber(m.Round),
			tagValid:  writeNumber(m.Valid),
			tagNum:    writeNumber(m.Num),
			tagID:     writeID(m.ID),
			tagData:   m.Data,
			tagIDs:    writeIDs(m.IDs),
			tagList:   writeList(m.List),
		}
		for tag, run := range runs {
			if len(run) > 0 && !yield(tag, run) {
				return
			}
		}
	}
}

// fieldsIn goes through the fields of bytes; one that isn't there whole is the last one.
func fieldsIn(b []byte) iter.Seq[field] {
	return func(yield func(field) bool) {
		for len(b) > 0 {
			f := field{tag: int(b[0])}
			f.run, b, f.whole = cutRun(b[1:])
			if !yield(f) || !f.whole {
				return
			}
		}
	}
}

// readFields puts the fields of bytes into a message.
func readFields(m *api.Msg, b []byte) api.Errno {
	e, last := api.OK, 0
fields:
	for f := range fieldsIn(b) {
		switch {
		case f.tag <= last || f.tag > tagList:
			e = api.ErrTag
			break fields
		case !f.whole:
			e = api.ErrShort
			break fields
		case len(f.run) == 0:
			e = api.ErrForm
			break fields
		default:
			if e = put(m, f); e != api.OK {
				break fields
			}
		}
		last = f.tag
	}
	return e
}

// put puts one field into a message.
func put(m *api.Msg, f field) (e api.Errno) {
	switch f.tag {
	case tagWho:
		m.Who, e = readNumber(f.run)
	case tagHeight:
		m.Height, e = readNumber(f.run)
	case tagRound:
		m.Round, e = readNumber(f.run)
	case tagValid:
		m.Valid, e = readNumber(f.run)
	case tagNum:
		m.Num, e = readNumber(f.run)
	case tagID:
		m.ID, e = readID(f.run)
	case tagData:
		m.Data = bytes.Clone(f.run)
	case tagIDs:
		m.IDs, e = readIDs(f.run)
	case tagList:
		m.List, e = readList(f.run)
	}
	return e
}

// writeNumber: a number's bytes; none, if it is 0.
func writeNumber(n int) []byte {
	digits := [maxDigits]byte{}
	at := len(digits)
	for ; n > 0; n >>= 8 {
		at--
		digits[at] = byte(n)
	}
	return digits[at:]
}

func readNumber(run []byte) (int, api.Errno) {
	if run[0] == 0 || len(run) > maxDigits {
		return 0, api.ErrForm
	}
	n := 0
	for _, digit := range run {
		n = n<<8 | int(digit)
	}
	if n > MaxNum {
		return 0, api.ErrForm
	}
	return n, api.OK
}

// writeID: an ID's bytes; none, if it is the zero one.
func writeID(id api.ID) []byte {
	if id == (api.ID{}) {
		return nil
	}
	return id[:]
}

func readID(run []byte) (api.ID, api.Errno) {
	id := api.ID{}
	if len(run) != len(id) {
		return id, api.ErrForm
	}
	copy(id[:], run)
	if id == (api.ID{}) {
		return id, api.ErrForm
	}
	return id, api.OK
}

func writeIDs(ids []api.ID) []byte {
	var b []byte
	for _, id := range ids {
		b = append(b, id[:]...)
	}
	return b
}

func readIDs(run []byte) ([]api.ID, api.Errno) {
	size := len(api.ID{})
	if len(run)%size != 0 {
		return nil, api.ErrForm
	}
	ids := make([]api.ID, len(run)/size)
	for i := range ids {
		copy(ids[i][:], run[i*size:])
	}
	return ids, api.OK
}

func writeList(list [][]byte) []byte {
	var b []byte
	for _, entry := range list {
		b = appendRun(b, entry)
	}
	return b
}

func readList(run []byte) ([][]byte, api.Errno) {
	var list [][]byte
	for entry, whole := range runsIn(run) {
		if !whole {
			return nil, api.ErrShort
		}
		if len(list) <= MaxList { // one too many shows that there are too many: those behind it needn't be kept
			list = append(list, bytes.Clone(entry))
		}
	}
	return list, api.OK
}
