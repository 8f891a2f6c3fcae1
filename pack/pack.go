// Package pack writes messages as bytes, each in just one way, and reads them.
package pack

import "scrivener/api"

// The limits.
const (
	MaxKind = 31
	MaxNum  = 1 << 40
	MaxData = 1 << 17
	MaxList = 64
)

// Write: a message's bytes.
func Write(m api.Msg) ([]byte, api.Errno) {
	if e := check(m); e != api.OK {
		return nil, e
	}
	b := []byte{byte(m.Kind)}
	for tag, run := range fieldsOf(m) {
		b = appendRun(append(b, byte(tag)), run)
	}
	return b, api.OK
}

// Read: the message of some bytes.
func Read(b []byte) (api.Msg, api.Errno) {
	if len(b) == 0 {
		return api.Msg{}, api.ErrShort
	}
	m := api.Msg{Kind: int(b[0])}
	if !isKind(m.Kind) {
		return api.Msg{}, api.ErrTag
	}
	if e := readFields(&m, b[1:]); e != api.OK {
		return api.Msg{}, e
	}
	if e := check(m); e != api.OK {
		return api.Msg{}, e
	}
	return m, api.OK
}

// check: why a message can't be written.
func check(m api.Msg) api.Errno {
	if !isKind(m.Kind) {
		return api.ErrTag
	}
	for _, n := range [...]int{m.Who, m.Height, m.Round, m.Valid, m.Num} {
		if n < 0 || n > MaxNum {
			return api.ErrRange
		}
	}
	if len(m.IDs) > MaxList || len(m.List) > MaxList {
		return api.ErrLong
	}
	size := len(m.Data)
	for _, entry := range m.List {
		size += len(entry)
	}
	if size > MaxData {
		return api.ErrLong
	}
	return api.OK
}

func isKind(kind int) bool {
	return kind >= 1 && kind <= MaxKind
}
