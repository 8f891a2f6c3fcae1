package pack_test

import (
	"bytes"
	"math"
	"math/rand"
	"reflect"
	"slices"
	"testing"

	"scrivener/api"
	"scrivener/pack"
)

// run: bytes as a run.
func run(b []byte) []byte {
	n := len(b)
	return append([]byte{byte(n >> 16), byte(n >> 8), byte(n)}, b...)
}

// field: bytes as a field with a tag.
func field(tag byte, b ...byte) []byte {
	return append([]byte{tag}, run(b)...)
}

// runs: so many empty runs.
func runs(n int) []byte {
	return make([]byte, 3*n)
}

// join: a kind and fields, one behind the other.
func join(kind byte, fields ...[]byte) []byte {
	return append([]byte{kind}, bytes.Join(fields, nil)...)
}

// full: a message that has all fields.
func full() api.Msg {
	return api.Msg{
		Kind: 31, Who: 1, Height: 256, Round: 65535, Valid: 1 << 24, Num: 1 << 40,
		ID: api.ID{31: 7}, Data: []byte("data"), IDs: []api.ID{{}, {1}},
		List: [][]byte{{}, []byte("xy"), {0}},
	}
}

// fullBytes: its bytes, by hand.
func fullBytes() []byte {
	id := api.ID{31: 7}
	return join(31,
		field(1, 1), field(2, 1, 0), field(3, 255, 255), field(4, 1, 0, 0, 0), field(5, 1, 0, 0, 0, 0, 0),
		field(6, id[:]...), field(7, []byte("data")...), field(8, append(make([]byte, 32), append([]byte{1}, make([]byte, 31)...)...)...),
		field(9, 0, 0, 0, 0, 0, 2, 'x', 'y', 0, 0, 1, 0))
}

// plain: a message whose empty lists are all nil, so that two can be held against each other.
func plain(m api.Msg) api.Msg {
	if len(m.Data) == 0 {
		m.Data = nil
	}
	if len(m.IDs) == 0 {
		m.IDs = nil
	}
	list := m.List
	m.List = nil
	for _, entry := range list {
		m.List = append(m.List, append([]byte{}, entry...))
	}
	return m
}

func same(a, b api.Msg) bool { return reflect.DeepEqual(plain(a), plain(b)) }

func TestWriteByHand(t *testing.T) { // P2.2
	for _, c := range []struct {
		m    api.Msg
		want []byte
	}{
		{api.Msg{Kind: 1}, []byte{1}},
		{api.Msg{Kind: 31}, []byte{31}},
		{api.Msg{Kind: 2, Data: []byte{}, IDs: []api.ID{}, List: [][]byte{}}, []byte{2}},
		{api.Msg{Kind: 3, Height: 258, Data: []byte("x")}, []byte{3, 2, 0, 0, 2, 1, 2, 7, 0, 0, 1, 'x'}},
		{api.Msg{Kind: 4, Who: 255}, join(4, field(1, 255))},
		{api.Msg{Kind: 4, Round: 256}, join(4, field(3, 1, 0))},
		{api.Msg{Kind: 4, Num: 1<<40 - 1}, join(4, field(5, 255, 255, 255, 255, 255))},
		{api.Msg{Kind: 4, Data: []byte{0}}, join(4, field(7, 0))},
		{api.Msg{Kind: 4, IDs: make([]api.ID, 1)}, join(4, field(8, make([]byte, 32)...))},
		{api.Msg{Kind: 4, List: [][]byte{nil}}, join(4, field(9, 0, 0, 0))},
		{api.Msg{Kind: 4, List: [][]byte{nil, {}}}, join(4, field(9, 0, 0, 0, 0, 0, 0))},
		{full(), fullBytes()},
	} {
		b, e := pack.Write(c.m)
		if e != api.OK || !bytes.Equal(b, c.want) {
			t.Errorf("Write of %+v: %x %v", c.m, b, e)
		}
		m, e := pack.Read(c.want)
		if e != api.OK || !same(m, c.m) {
			t.Errorf("Read of %x: %+v %v", c.want, m, e)
		}
	}
}

func TestRunsHaveThreeBytesOfTheirLength(t *testing.T) { // P2.2
	for _, n := range []int{1, 255, 256, 65535, 65536, 66051, pack.MaxData} {
		data := bytes.Repeat([]byte{5}, n)
		b, e := pack.Write(api.Msg{Kind: 1, Data: data})
		if e != api.OK || !bytes.Equal(b, join(1, field(7, data...))) {
			t.Errorf("Write of %d bytes: %v", n, e)
		}
		b, e = pack.Write(api.Msg{Kind: 1, List: [][]byte{data}})
		if e != api.OK || !bytes.Equal(b, join(1, field(9, run(data)...))) {
			t.Errorf("Write of an entry of %d bytes: %v", n, e)
		}
		m, e := pack.Read(b)
		if e != api.OK || len(m.List) != 1 || !bytes.Equal(m.List[0], data) {
			t.Errorf("Read of an entry of %d bytes: %v", n, e)
		}
	}
}

// numbers: messages that have one number, each in another field.
func numbers(kind, n int) []api.Msg {
	return []api.Msg{{Kind: kind, Who: n}, {Kind: kind, Height: n}, {Kind: kind, Round: n}, {Kind: kind, Valid: n}, {Kind: kind, Num: n}}
}

// wrong holds what Write says of a message against an error.
func wrong(t *testing.T, name string, m api.Msg, want api.Errno) {
	t.Helper()
	b, e := pack.Write(m)
	if e != want || (len(b) == 0) != (want != api.OK) {
		t.Errorf("Write of %s: %d bytes, %v, not %v", name, len(b), e, want)
	}
}

func TestWhatCannotBeWritten(t *testing.T) { // P2.1
	many := make([]api.ID, pack.MaxList+1)
	for _, kind := range []int{0, -1, 32, 256, 257, math.MinInt, math.MaxInt} {
		wrong(t, "a wrong kind", api.Msg{Kind: kind}, api.ErrTag)
		wrong(t, "a wrong kind and more", api.Msg{Kind: kind, Who: -1, IDs: many}, api.ErrTag)
	}
	for _, n := range []int{-1, pack.MaxNum + 1, math.MinInt, math.MaxInt} {
		for _, m := range numbers(9, n) {
			wrong(t, "a wrong number", m, api.ErrRange)
			m.IDs, m.Data = many, make([]byte, pack.MaxData+1)
			wrong(t, "a wrong number and more", m, api.ErrRange)
		}
	}
	for _, n := range []int{0, 1, pack.MaxNum} {
		for _, m := range numbers(9, n) {
			wrong(t, "a number", m, api.OK)
		}
	}
	for kind := 1; kind <= pack.MaxKind; kind++ {
		wrong(t, "a kind", api.Msg{Kind: kind}, api.OK)
	}
}

func TestWhatIsTooLong(t *testing.T) { // P2.1
	many := make([][]byte, pack.MaxList+1)
	most, half := make([]byte, pack.MaxData), make([]byte, pack.MaxData/2)
	one := []byte{1}
	wrong(t, "64 IDs", api.Msg{Kind: 1, IDs: make([]api.ID, 64)}, api.OK)
	wrong(t, "65 IDs", api.Msg{Kind: 1, IDs: make([]api.ID, 65)}, api.ErrLong)
	wrong(t, "64 in List", api.Msg{Kind: 1, List: many[:64]}, api.OK)
	wrong(t, "65 in List", api.Msg{Kind: 1, List: many}, api.ErrLong)
	wrong(t, "64 of both", api.Msg{Kind: 1, IDs: make([]api.ID, 64), List: many[:64], Data: most}, api.OK)
	wrong(t, "the most Data", api.Msg{Kind: 1, Data: most}, api.OK)
	wrong(t, "more Data", api.Msg{Kind: 1, Data: append(most, 1)}, api.ErrLong)
	wrong(t, "the most in List", api.Msg{Kind: 1, List: [][]byte{half, nil, half}}, api.OK)
	wrong(t, "more in List", api.Msg{Kind: 1, List: [][]byte{half, one, half}}, api.ErrLong)
	wrong(t, "the most in both", api.Msg{Kind: 1, Data: half, List: [][]byte{half}}, api.OK)
	wrong(t, "more in both", api.Msg{Kind: 1, Data: half, List: [][]byte{half, one}}, api.ErrLong)
}

func TestReadTells(t *testing.T) { // P2.3
	id, zero := bytes.Repeat([]byte{1}, 32), make([]byte, 32)
	most := make([]byte, pack.MaxData)
	for name, c := range map[string]struct {
		b    []byte
		want api.Errno
	}{
		"nothing":            {nil, api.ErrShort},
		"no bytes":           {[]byte{}, api.ErrShort},
		"kind 0":             {[]byte{0}, api.ErrTag},
		"kind 0 and more":    {join(0, []byte{1}), api.ErrTag},
		"kind 32":            {[]byte{32}, api.ErrTag},
		"kind 255":           {[]byte{255}, api.ErrTag},
		"kind 1":             {[]byte{1}, api.OK},
		"kind 31":            {[]byte{31}, api.OK},
		"tag 0":              {join(1, field(0, 1)), api.ErrTag},
		"tag 0 alone":        {join(1, []byte{0}), api.ErrTag},
		"tag 10":             {join(1, field(10, 1)), api.ErrTag},
		"tag 10 alone":       {join(1, []byte{10}), api.ErrTag},
		"tag 255":            {join(1, field(9, 0, 0, 0), field(255, 1)), api.ErrTag},
		"a tag twice":        {join(1, field(1, 1), field(1, 1)), api.ErrTag},
		"a tag twice, alone": {join(1, field(9, 0, 0, 0), []byte{9}), api.ErrTag},
		"a tag below":        {join(1, field(2, 1), field(1, 1)), api.ErrTag},

		"a tag alone":            {join(1, []byte{1}), api.ErrShort},
		"one byte of a length":   {join(1, []byte{1, 0}), api.ErrShort},
		"two bytes of a length":  {join(1, []byte{1, 0, 0}), api.ErrShort},
		"no byte of one":         {join(1, []byte{1, 0, 0, 1}), api.ErrShort},
		"some bytes of many":     {join(1, []byte{7, 0, 1, 0}, make([]byte, 255)), api.ErrShort},
		"a byte of very many":    {join(1, []byte{7, 255, 255, 255, 1}), api.ErrShort},
		"a nought, cut off":      {join(1, []byte{1, 0, 0, 2, 0}), api.ErrShort},
		"an ID, cut off":         {join(1, []byte{6, 0, 0, 31, 1}), api.ErrShort},
		"the second one cut off": {join(1, field(1, 1), []byte{2, 0, 0, 2, 1}), api.ErrShort},

		"nought bytes of ID":   {join(1, field(6)), api.ErrForm},
		"nought bytes of Data": {join(1, field(7)), api.ErrForm},
		"nought bytes of IDs":  {join(1, field(8)), api.ErrForm},
		"nought bytes of List": {join(1, field(9)), api.ErrForm},
		"an ID":                {join(1, field(6, id...)), api.OK},
		"a short ID":           {join(1, field(6, id[:31]...)), api.ErrForm},
		"a long ID":            {join(1, field(6, append(id, 1)...)), api.ErrForm},
		"two IDs for one":      {join(1, field(6, append(id, id...)...)), api.ErrForm},
		"the zero ID":          {join(1, field(6, zero...)), api.ErrForm},
		"short IDs":            {join(1, field(8, id[:31]...)), api.ErrForm},
		"long IDs":             {join(1, field(8, append(id, 1)...)), api.ErrForm},
		"a zero ID of several": {join(1, field(8, zero...)), api.OK},
		"two IDs":              {join(1, field(8, append(zero, id...)...)), api.OK},

		"a run of List without length": {join(1, field(9, 0)), api.ErrShort},
		"a run of List with half":      {join(1, field(9, 0, 0)), api.ErrShort},
		"a run of List without bytes":  {join(1, field(9, 0, 0, 1)), api.ErrShort},
		"a second run that isn't":      {join(1, field(9, 0, 0, 1, 1, 0)), api.ErrShort},
		"a run of List over the end":   {join(1, field(9, 0, 0, 1), []byte{1}), api.ErrShort},
		"a run of List, and a tag":     {join(1, field(9, 0, 0, 0), []byte{1}), api.ErrTag},

		"64 IDs":             {join(1, field(8, make([]byte, 64*32)...)), api.OK},
		"65 IDs":             {join(1, field(8, make([]byte, 65*32)...)), api.ErrLong},
		"64 of List":         {join(1, field(9, runs(64)...)), api.OK},
		"65 of List":         {join(1, field(9, runs(65)...)), api.ErrLong},
		"very many of List":  {join(1, field(9, runs(100000)...)), api.ErrLong},
		"65, and half a one": {join(1, field(9, append(runs(65), 0)...)), api.ErrShort},
		"the most Data":      {join(1, field(7, most...)), api.OK},
		"more Data":          {join(1, field(7, append(most, 1)...)), api.ErrLong},
		"the most of List":   {join(1, field(9, run(most)...)), api.OK},
		"more of List":       {join(1, field(9, run(append(most, 1))...)), api.ErrLong},
		"the most of both":   {join(1, field(7, most[1:]...), field(9, run([]byte{1})...)), api.OK},
		"more of both":       {join(1, field(7, most...), field(9, run([]byte{1})...)), api.ErrLong},

		"a form ahead of a tag":     {join(1, field(1, 0), field(1, 1)), api.ErrForm},
		"a form ahead of what ends": {join(1, field(1, 0), []byte{2}), api.ErrForm},
		"a tag ahead of a form":     {join(1, field(0), field(1, 0)), api.ErrTag},
		"a length behind a form":    {join(1, field(7, append(most, 1)...), field(8, 1)), api.ErrForm},
		"a length behind a tag":     {join(1, field(8, make([]byte, 65*32)...), field(8, 1)), api.ErrTag},
		"a length behind what ends": {join(1, field(8, make([]byte, 65*32)...), []byte{9}), api.ErrShort},
	} {
		m, e := pack.Read(c.b)
		if e != c.want {
			t.Errorf("Read of %s: %v, not %v", name, e, c.want)
		}
		if e != api.OK && !reflect.DeepEqual(m, api.Msg{}) {
			t.Errorf("Read of %s: a message beside an error", name)
		}
		if b, f := pack.Write(m); e == api.OK && (f != api.OK || !bytes.Equal(b, c.b)) {
			t.Errorf("Read of %s: a message of which these aren't the bytes", name)
		}
	}
}

func TestReadOfNumbers(t *testing.T) { // P2.3
	for tag := byte(1); tag <= 5; tag++ {
		for _, c := range []struct {
			b    []byte
			n    int
			want api.Errno
		}{
			{[]byte{}, 0, api.ErrForm},
			{[]byte{0}, 0, api.ErrForm},
			{[]byte{0, 1}, 0, api.ErrForm},
			{[]byte{1}, 1, api.OK},
			{[]byte{255}, 255, api.OK},
			{[]byte{1, 2, 3}, 66051, api.OK},
			{[]byte{255, 255, 255, 255, 255}, 1<<40 - 1, api.OK},
			{[]byte{1, 0, 0, 0, 0, 0}, 1 << 40, api.OK},
			{[]byte{1, 0, 0, 0, 0, 1}, 0, api.ErrForm},
			{[]byte{255, 255, 255, 255, 255, 255}, 0, api.ErrForm},
			{[]byte{1, 0, 0, 0, 0, 0, 0}, 0, api.ErrForm},
			{[]byte{128, 0, 0, 0, 0, 0, 0, 1}, 0, api.ErrForm},
			{[]byte{1, 0, 0, 0, 0, 0, 0, 0, 1}, 0, api.ErrForm},
		} {
			m, e := pack.Read(join(6, field(tag, c.b...)))
			want := api.Msg{}
			if c.want == api.OK {
				want = numbers(6, c.n)[tag-1]
			}
			if e != c.want || !same(m, want) {
				t.Errorf("Read of the number %x with tag %d: %+v %v", c.b, tag, m, e)
			}
		}
	}
}

// draw: some message that can be written.
func draw(r *rand.Rand) api.Msg {
	number := func() int { return r.Intn(2) * (r.Intn(pack.MaxNum+1) >> r.Intn(41)) }
	text := func() []byte { b := make([]byte, r.Intn(2)*r.Intn(40)); r.Read(b); return b }
	m := api.Msg{Kind: 1 + r.Intn(31), Who: number(), Height: number(), Round: number(), Valid: number(), Num: number(), Data: text()}
	r.Read(m.ID[:r.Intn(2)*32])
	m.IDs = make([]api.ID, r.Intn(2)*r.Intn(5))
	for i := range m.IDs {
		r.Read(m.IDs[i][:r.Intn(2)*32])
	}
	m.List = make([][]byte, r.Intn(2)*r.Intn(5))
	for i := range m.List {
		m.List[i] = text()
	}
	return m
}

func TestThereAndBack(t *testing.T) { // P2.2, P2.3
	r := rand.New(rand.NewSource(1))
	for range 3000 {
		m := draw(r)
		b, e := pack.Write(m)
		n, f := pack.Read(b)
		if e != api.OK || f != api.OK || !same(m, n) {
			t.Fatalf("%+v there and back: %+v %v %v", m, n, e, f)
		}
	}
}

func TestOfAnyBytes(t *testing.T) { // P1, P2.3: whatever is read is written as it was, and nothing else is read
	r := rand.New(rand.NewSource(2))
	read := 0
	for range 30000 {
		b, _ := pack.Write(draw(r))
		for range 1 + r.Intn(3) {
			at := r.Intn(len(b))
			switch r.Intn(4) {
			case 0:
				b[at] = byte(r.Intn(256))
			case 1:
				b[at] ^= 1 << r.Intn(8)
			case 2:
				b = slices.Insert(b, at, byte(r.Intn(12)))
			case 3:
				b = b[:at+1]
			}
		}
		m, e := pack.Read(b)
		if e != api.OK {
			if !reflect.DeepEqual(m, api.Msg{}) {
				t.Fatalf("Read of %x: a message beside %v", b, e)
			}
			continue
		}
		read++
		if c, f := pack.Write(m); f != api.OK || !bytes.Equal(b, c) {
			t.Fatalf("%x is read, and written as %x", b, c)
		}
	}
	if read < 1000 {
		t.Errorf("only %d were read", read)
	}
}

// roomy: bytes with spare room behind them.
func roomy(s string) []byte { return []byte(s + "spare")[:len(s)] }

func TestWriteKeepsToItself(t *testing.T) { // P2
	m := full()
	m.Data, m.List[1] = roomy("data"), roomy("xy")
	b, _ := pack.Write(m)
	c, _ := pack.Write(m)
	if string(m.Data[:9]) != "dataspare" || string(m.List[1][:7]) != "xyspare" || !same(m, full()) {
		t.Error("Write changed the message")
	}
	fill(b)
	if !bytes.Equal(c, fullBytes()) || !same(m, full()) {
		t.Error("what Write answers shares memory")
	}
	d, _ := pack.Write(api.Msg{Kind: 1, Data: m.Data})
	fill(m.Data)
	if !bytes.Equal(d, join(1, field(7, []byte("data")...))) {
		t.Error("Write kept Data")
	}
}

// fill changes bytes, and all their spare room.
func fill(b []byte) {
	b = b[:cap(b)]
	for i := range b {
		b[i] = 0xee
	}
}

func TestReadKeepsToItself(t *testing.T) { // P2
	b := append(fullBytes(), roomy("")[:5]...)
	b = b[:len(b)-5]
	m, _ := pack.Read(b)
	n, _ := pack.Read(b)
	if !bytes.Equal(b, fullBytes()) || string(b[len(b):len(b)+5]) != "spare" {
		t.Error("Read changed its bytes")
	}
	fill(b)
	if !same(m, full()) {
		t.Error("who changes the bytes changes the message")
	}
	fill(m.Data)
	for i := range m.List {
		fill(m.List[i])
		for j := range m.List {
			if j > i && !bytes.Equal(m.List[j], full().List[j]) {
				t.Error("two of List share memory")
			}
		}
	}
	ids := m.IDs[:cap(m.IDs)]
	for i := range ids {
		ids[i] = api.ID{9}
	}
	clear(m.List[:cap(m.List)])
	if !same(n, full()) {
		t.Error("two answers share memory")
	}
}
