package journal_test

import (
	"bytes"
	"crypto/sha256"
	"encoding/binary"
	"math"
	"slices"
	"testing"

	"scrivener/api"
	"scrivener/journal"
	"scrivener/slab"
)

// summed: layer 1's For, written out with the library's SHA-256.
func summed(purpose string, parts ...[]byte) api.ID {
	b := append([]byte(purpose), 0)
	for _, part := range parts {
		b = binary.BigEndian.AppendUint32(b, uint32(len(part)))
		b = append(b, part...)
	}
	return sha256.Sum256(b)
}

// total: the sum of all records.
func total(records ...[]byte) api.ID {
	var all api.ID
	for _, r := range records {
		all = summed("record", all[:], r)
	}
	return all
}

// lying: what lies on a slab of records.
func lying(records ...[]byte) []byte {
	var b []byte
	for i, r := range records {
		ahead, with := total(records[:i]...), total(records[:i+1]...)
		size := binary.BigEndian.AppendUint32(nil, uint32(len(r)))[1:]
		front := summed("front", ahead[:], size)
		b = slices.Concat(b, size, front[:16], with[:16], r)
	}
	return b
}

// texts: records of texts.
func texts(all ...string) [][]byte {
	var records [][]byte
	for _, s := range all {
		records = append(records, []byte(s))
	}
	return records
}

// some: so many bytes, of which no two runs are alike.
func some(n int) []byte {
	b := make([]byte, n)
	x := uint32(n + 1)
	for i := range b {
		x = x*1664525 + 1013904223
		b[i] = byte(x >> 24)
	}
	return b
}

// disk: a slab on which these bytes lie, all sure.
func disk(t *testing.T, room int, b []byte) *slab.Slab {
	t.Helper()
	d, e := slab.New(room)
	if e != api.OK || d.Append(b) != api.OK || d.Sync() != api.OK {
		t.Fatalf("a slab of %d with %d bytes: %v", room, len(b), e)
	}
	return d
}

// opened: the journal on a slab.
func opened(t *testing.T, d *slab.Slab) *journal.Journal {
	t.Helper()
	j, e := journal.Open(d)
	if e != api.OK || j == nil {
		t.Fatalf("Open: %v", e)
	}
	return j
}

// has: are these a journal's records?
func has(t *testing.T, j *journal.Journal, records ...[]byte) {
	t.Helper()
	if j.Len() != len(records) || j.Last() != total(records...) {
		t.Fatalf("%d records, the sum of all %x; want %d, %x", j.Len(), j.Last(), len(records), total(records...))
	}
	for i, r := range records {
		if b, e := j.At(i); e != api.OK || !bytes.Equal(b, r) {
			t.Errorf("the record %d: %v, %d bytes, not %d", i, e, len(b), len(r))
		}
	}
	for _, i := range []int{-1, len(records), len(records) + 1, math.MinInt, math.MaxInt} {
		if b, e := j.At(i); e != api.ErrMissing || b != nil {
			t.Errorf("At(%d) of %d: %v", i, len(records), e)
		}
	}
}

// lies: are these bytes on a slab, so many of them sure?
func lies(t *testing.T, d *slab.Slab, want []byte, wantSure int) {
	t.Helper()
	if n, sure := d.Size(); n != len(want) || sure != wantSure || !bytes.Equal(d.Bytes(), want) {
		t.Errorf("%d bytes lie there, %d sure; want %d, %d", n, sure, len(want), wantSure)
	}
}

// torn: does Open refuse a slab, and leave it as it is?
func torn(t *testing.T, what string, d *slab.Slab) {
	t.Helper()
	n, sure := d.Size()
	ahead := d.Bytes()
	if j, e := journal.Open(d); e != api.ErrTorn || j != nil {
		t.Errorf("%s: %v", what, e)
	}
	if m, after := d.Size(); m != n || after != sure || !bytes.Equal(d.Bytes(), ahead) {
		t.Errorf("%s: the slab was changed", what)
	}
}

func answers(t *testing.T, what string, e, want api.Errno) {
	t.Helper()
	if e != want {
		t.Errorf("%s: %v, not %v", what, e, want)
	}
}

func TestLimit(t *testing.T) { // P10.3
	if journal.MaxRecord != 262144 {
		t.Error(journal.MaxRecord)
	}
}

func TestNone(t *testing.T) { // P10.1, P10.2
	for _, room := range []int{0, 5, 1000} {
		d := disk(t, room, nil)
		j := opened(t, d)
		has(t, j)
		if j.Last() != (api.ID{}) {
			t.Error("the sum of no records")
		}
		lies(t, d, nil, 0)
	}
}

func TestExample(t *testing.T) { // P10.2, P10.3
	d := disk(t, 100, nil)
	answers(t, "Write", opened(t, d).Write([]byte("one")), api.OK)
	has(t, opened(t, d), texts("one")...)
}

func TestWhatIsWrittenLiesThere(t *testing.T) { // P10.1, P10.3
	d := disk(t, 100000, nil)
	j := opened(t, d)
	var records [][]byte
	for _, n := range []int{3, 0, 1, 0, 255, 256, 257, 35, 65535, 2, 513} {
		r := some(n)
		answers(t, "Write", j.Write(r), api.OK)
		records = append(records, r)
		has(t, j, records...)
		want := lying(records...)
		lies(t, d, want, len(want))
		has(t, opened(t, d), records...)
	}
}

func TestSameRecordsLieOtherwise(t *testing.T) { // P10.1: each is bound to all ahead of it
	d := disk(t, 1000, nil)
	j := opened(t, d)
	for range 3 {
		answers(t, "Write", j.Write([]byte("same")), api.OK)
	}
	b := d.Bytes()
	if bytes.Equal(b[:35], b[39:74]) || bytes.Equal(b[39:74], b[78:113]) || !bytes.Equal(b, lying(texts("same", "same", "same")...)) {
		t.Error("two alike")
	}
}

func TestLongRecords(t *testing.T) { // P10.1, P10.3
	d := disk(t, slab.MaxRoom, nil)
	j := opened(t, d)
	records := [][]byte{some(65536), some(journal.MaxRecord - 1), some(journal.MaxRecord)}
	for _, r := range records {
		answers(t, "Write", j.Write(r), api.OK)
	}
	ahead := lying(records...)
	for _, n := range []int{journal.MaxRecord + 1, journal.MaxRecord + 2, 1 << 24, 1<<24 + 3} {
		answers(t, "Write of too much", j.Write(make([]byte, n)), api.ErrLong)
	}
	lies(t, d, ahead, len(ahead))
	has(t, j, records...)
	has(t, opened(t, d), records...)
	answers(t, "Write", j.Write([]byte("more")), api.OK) // what was too long did no harm
	has(t, opened(t, d), append(records, []byte("more"))...)
}

func TestTooLongIsNoStep(t *testing.T) { // P10.3
	d := disk(t, 1000, nil)
	j := opened(t, d)
	d.Break(0)
	answers(t, "Write of too much", j.Write(make([]byte, journal.MaxRecord+1)), api.ErrLong)
	d.Break(2)
	answers(t, "Write of too much", j.Write(make([]byte, journal.MaxRecord+1)), api.ErrLong)
	answers(t, "Write", j.Write(nil), api.OK)
	has(t, j, nil)
}

func TestOpenOfLongerRecords(t *testing.T) { // P10.2: nothing there asks how long a record is
	records := [][]byte{some(7), some(journal.MaxRecord + 1), some(1 << 20), some(3)}
	d := disk(t, slab.MaxRoom, lying(records...))
	has(t, opened(t, d), records...)
}

func TestWriteIsOneAppendAndOneSync(t *testing.T) { // P10.3
	all := lying(texts("one", "two")...)
	first := len(lying(texts("one")...))
	for steps, c := range []struct {
		e    api.Errno
		size int
		sure int
	}{{api.ErrDown, first, first}, {api.ErrDown, len(all), first}, {api.OK, len(all), len(all)}} {
		d := disk(t, 1000, nil)
		j := opened(t, d)
		answers(t, "Write", j.Write([]byte("one")), api.OK)
		d.Break(steps)
		answers(t, "Write", j.Write([]byte("two")), c.e)
		lies(t, d, all[:c.size], c.sure)
		answers(t, "a step more", d.Sync(), api.ErrDown)
		if c.e == api.OK {
			has(t, j, texts("one", "two")...)
		} else {
			has(t, j, texts("one")...)
		}
	}
}

func TestDownForGood(t *testing.T) { // P10.3
	for steps := range 2 {
		d := disk(t, 1000, nil)
		j := opened(t, d)
		answers(t, "Write", j.Write([]byte("one")), api.OK)
		d.Break(steps)
		answers(t, "Write", j.Write([]byte("two")), api.ErrDown)
		n, _ := d.Size()
		d.Break(-1)
		for range 2 {
			answers(t, "Write with power", j.Write([]byte("three")), api.ErrDown)
			answers(t, "Write of too much", j.Write(make([]byte, journal.MaxRecord+1)), api.ErrDown)
			answers(t, "Write of nothing", j.Write(nil), api.ErrDown)
			has(t, j, texts("one")...)
			if m, _ := d.Size(); m != n {
				t.Error("something was Appended")
			}
			d.Crash(0)
			n, _ = d.Size()
		}
		k := opened(t, d) // another is not down
		has(t, k, texts("one")...)
		answers(t, "Write", k.Write([]byte("three")), api.OK)
		has(t, opened(t, d), texts("one", "three")...)
	}
}

func TestDownIsNoStep(t *testing.T) { // P10.3
	d := disk(t, 1000, nil)
	j := opened(t, d)
	d.Break(1)
	answers(t, "Write", j.Write([]byte("one")), api.ErrDown)
	d.Break(1)
	answers(t, "Write", j.Write([]byte("one")), api.ErrDown)
	answers(t, "Sync", d.Sync(), api.OK)
}

func TestFull(t *testing.T) { // P10.3: nothing is there, and a shorter one may be written
	d := disk(t, 35+3+35+2, nil)
	j := opened(t, d)
	answers(t, "Write", j.Write([]byte("one")), api.OK)
	for range 2 {
		answers(t, "Write of one byte too many", j.Write([]byte("two")), api.ErrFull)
		has(t, j, texts("one")...)
		lies(t, d, lying(texts("one")...), 38)
	}
	d.Break(0)
	answers(t, "Write of one byte too many, without power", j.Write([]byte("two")), api.ErrFull)
	d.Break(2) // what didn't fit was no step, and put nothing down
	answers(t, "Write of what fits", j.Write([]byte("tw")), api.OK)
	answers(t, "Write where nothing fits", j.Write(nil), api.ErrFull)
	has(t, j, texts("one", "tw")...)
	has(t, opened(t, d), texts("one", "tw")...)
}

func TestWhatIsCutShort(t *testing.T) { // P10.2
	records := texts("one", "", "three", "a fourth one that is longer than all of them were")
	b := lying(records...)
	var ends []int
	for i := range len(records) + 1 {
		ends = append(ends, len(lying(records[:i]...)))
	}
	for n := range len(b) + 1 {
		d := disk(t, 1000, b[:n])
		whole := 0
		for whole+1 < len(ends) && ends[whole+1] <= n {
			whole++
		}
		j := opened(t, d)
		has(t, j, records[:whole]...)
		lies(t, d, b[:ends[whole]], ends[whole])
		answers(t, "Write behind it", j.Write([]byte("anew")), api.OK)
		has(t, opened(t, d), append(slices.Clone(records[:whole]), []byte("anew"))...)
	}
}

func TestFewerThanAFrontMayBeAnything(t *testing.T) { // P10.2
	b := lying(texts("one")...)
	for n := range 35 {
		d := disk(t, 1000, append(slices.Clone(b), some(n)...))
		has(t, opened(t, d), texts("one")...)
		lies(t, d, b, len(b))
	}
	torn(t, "35 bytes of anything", disk(t, 1000, append(slices.Clone(b), some(35)...)))
	torn(t, "35 bytes of anything alone", disk(t, 1000, some(35)))
	torn(t, "35 noughts", disk(t, 1000, make([]byte, 35)))
}

func TestSpoiltBytes(t *testing.T) { // P10.2
	records := texts("one", "", "three", "four")
	b := lying(records...)
	for at := range b {
		for _, x := range []byte{1, 128, 255} {
			d := disk(t, 1000, b)
			if e := d.Spoil(at, b[at]^x); e != api.OK {
				t.Fatal(e)
			}
			torn(t, "one byte is another", d)
		}
	}
}

func TestSpoiltAndCutShort(t *testing.T) { // P10.2: what is there of a last record is looked at in its order
	b := lying(texts("one", "another")...)
	for n := 38; n < len(b); n++ {
		for at := 38; at < n; at++ {
			d := disk(t, 1000, b[:n])
			if e := d.Spoil(at, b[at]^1); e != api.OK {
				t.Fatal(e)
			}
			if n-38 >= 35 && at-38 < 19 { // its front is all there, and isn't right
				torn(t, "a front is another", d)
				continue
			}
			has(t, opened(t, d), texts("one")...)
			lies(t, d, b[:38], 38)
		}
	}
}

func TestSpoiltSizeAlone(t *testing.T) { // P10.2: a size that isn't bound is torn, also where too few bytes are left for it
	b := lying(texts("one")...)
	for _, size := range [][3]byte{{255, 255, 255}, {0, 0, 4}, {0, 1, 3}, {1, 0, 3}, {0, 0, 2}, {0, 0, 0}} {
		c := slices.Clone(b)
		copy(c, size[:])
		torn(t, "another size", disk(t, 1000, c))
	}
}

func TestGreatSizes(t *testing.T) { // P10.2: a right front of a record that isn't there whole
	one := lying(texts("one")...)
	ahead := total(texts("one")...)
	for _, size := range [][3]byte{{255, 255, 255}, {4, 0, 1}, {4, 0, 0}, {0, 0, 1}, {0, 0, 255}, {0, 1, 0}} {
		front := summed("front", ahead[:], size[:])
		for _, behind := range [][]byte{some(16), make([]byte, 16)} {
			d := disk(t, 1000, slices.Concat(one, size[:], front[:16], behind))
			has(t, opened(t, d), texts("one")...)
			lies(t, d, one, len(one))
		}
	}
}

func TestOtherOrderAndOtherBeginnings(t *testing.T) { // P10.2: each record is bound to all ahead of it
	b := lying(texts("one", "two", "six")...)
	one, two, six := b[:38], b[38:76], b[76:]
	for what, c := range map[string][]byte{
		"two first":            slices.Concat(two, one, six),
		"one gone":             slices.Concat(two, six),
		"two gone":             slices.Concat(one, six),
		"two of another":       slices.Concat(one, lying(texts("uno", "two")...)[38:], six),
		"two at its end":       slices.Concat(one, two, six, two),
		"one again":            slices.Concat(one, one),
		"another in its place": slices.Concat(one, lying(texts("one", "dos")...)[38:], six),
	} {
		torn(t, what, disk(t, 1000, c))
	}
}

func TestTornAheadOfCutShort(t *testing.T) { // P10.2: nothing is Cut off where something is torn
	b := append(lying(texts("one", "two")...), some(20)...)
	b[36] ^= 1
	torn(t, "spoilt, and with something behind", disk(t, 1000, b))
	d := disk(t, 1000, b)
	d.Break(0)
	torn(t, "without power", d)
}

func TestOpenTakesAStepOnlyToCut(t *testing.T) { // P10.2
	b := lying(texts("one", "two")...)
	d := disk(t, 1000, b)
	d.Break(0)
	has(t, opened(t, d), texts("one", "two")...)
	d.Break(1)
	has(t, opened(t, d), texts("one", "two")...)
	answers(t, "Sync", d.Sync(), api.OK)

	for n := len(b) + 1; n < len(b)+35; n++ {
		behind := append(slices.Clone(b), some(n-len(b))...)
		d = disk(t, 1000, behind)
		d.Break(0)
		if j, e := journal.Open(d); e != api.ErrDown || j != nil {
			t.Errorf("Open without power to Cut: %v", e)
		}
		lies(t, d, behind, len(behind))
		d.Break(1)
		has(t, opened(t, d), texts("one", "two")...)
		lies(t, d, b, len(b))
		answers(t, "Sync", d.Sync(), api.ErrDown)
	}
}

func TestPowerIsLostWhileWriting(t *testing.T) { // P10.2, P10.3
	all := lying(texts("one", "", "three")...)
	for steps := range 4 {
		for keep := range 50 {
			d := disk(t, 1000, nil)
			j := opened(t, d)
			answers(t, "Write", j.Write([]byte("one")), api.OK)
			answers(t, "Write", j.Write(nil), api.OK)
			d.Break(steps)
			want := api.OK
			if steps < 2 {
				want = api.ErrDown
			}
			answers(t, "Write", j.Write([]byte("three")), want)
			d.Crash(keep)
			k := opened(t, d)
			if want == api.OK || steps == 1 && keep >= 40 { // Appended, and by chance kept
				has(t, k, texts("one", "", "three")...)
				lies(t, d, all, len(all))
			} else {
				has(t, k, texts("one", "")...)
				lies(t, d, all[:73], 73)
			}
		}
	}
}

func TestWhatIsOpenedIsWrittenOn(t *testing.T) { // P10.2, P10.3
	d := disk(t, 5000, nil)
	var records [][]byte
	for n := range 40 {
		j := opened(t, d)
		has(t, j, records...)
		answers(t, "Write", j.Write(some(n)), api.OK)
		records = append(records, some(n))
		has(t, j, records...)
	}
	b := lying(records...)
	lies(t, d, b, len(b))
}

func TestNothingIsShared(t *testing.T) { // P2
	d := disk(t, 1000, lying(texts("one")...))
	j := opened(t, d)
	data := append(make([]byte, 0, 100), "two"...)
	answers(t, "Write", j.Write(data), api.OK)
	clear(data[:cap(data)])
	has(t, j, texts("one", "two")...)
	has(t, opened(t, d), texts("one", "two")...)
	for i := range 2 {
		one, _ := j.At(i)
		two, _ := j.At(i)
		clear(one[:cap(one)])
		_ = append(one, "behind"...)
		if bytes.Equal(one, two) {
			t.Error("two answers share")
		}
		clear(two[:cap(two)])
	}
	has(t, j, texts("one", "two")...)
	has(t, opened(t, d), texts("one", "two")...)
}

func TestSpareRoomStays(t *testing.T) { // P2
	whole := []byte("abcdef")
	d := disk(t, 1000, nil)
	j := opened(t, d)
	answers(t, "Write", j.Write(whole[:3]), api.OK)
	answers(t, "Write", j.Write(whole[:0]), api.OK)
	answers(t, "Write of too much", j.Write(make([]byte, journal.MaxRecord+1)), api.ErrLong)
	if string(whole) != "abcdef" {
		t.Errorf("%q", whole)
	}
	has(t, j, texts("abc", "")...)
}

func TestRecordsStayWhatTheyWere(t *testing.T) { // P10.1: who spoils the slab is found out when it is opened
	d := disk(t, 1000, lying(texts("one")...))
	j := opened(t, d)
	answers(t, "Write", j.Write([]byte("two")), api.OK)
	answers(t, "Spoil", d.Spoil(36, 'x'), api.OK)
	answers(t, "Spoil", d.Spoil(74, 'x'), api.OK)
	has(t, j, texts("one", "two")...)
	torn(t, "spoilt since", d)
}
