package page_test

import (
	"encoding/binary"
	"fmt"
	"hash/crc32"
	"slices"
	"strings"
	"testing"

	"quayside/api"
	"quayside/page"
)

// TestExample is that of the chapter.
func TestExample(t *testing.T) {
	p := newPage(t, 1)
	must(t, "Put b 1", p.Put("b", "1"), api.OK)
	must(t, "Put a 2", p.Put("a", "2"), api.OK)
	if key, value := p.At(0); key != "a" || value != "2" {
		t.Errorf("At(0): %q, %q", key, value)
	}
	same(t, "both", p, model{1, []cell{{"a", "2"}, {"b", "1"}}})
}

func TestPg1New(t *testing.T) {
	for kind := 1; kind <= 255; kind++ {
		same(t, fmt.Sprint("kind ", kind), newPage(t, kind), model{kind: kind})
	}
	for _, kind := range []int{0, 256, 257, 512, -1, -255, -256, 1 << 32, 1<<32 + 1, api.MinInt, api.MinInt + 1, api.MaxInt} {
		if p, e := page.New(kind); p != nil || e != api.ErrArg {
			t.Errorf("New(%d): %v, error %d", kind, p, e)
		}
	}
}

// TestPg1Bytes holds them against bytes that are written out by hand.
func TestPg1Bytes(t *testing.T) {
	bytesAre(t, "no cell", newPage(t, 255), "\xff\x00\x00\x00"+"\xcc\x99\xf4\x79"+strings.Repeat("\x00", 248))
	p := newPage(t, 9)
	for _, c := range []cell{{"m", "23"}, {"a", ""}, {"zz", "4567"}} {
		must(t, "Put", p.Put(c.key, c.value), api.OK)
	}
	b := []byte(p.Bytes())
	if len(b) != 256 {
		t.Fatalf("%d bytes", len(b))
	}
	if string(b) != sealed(b) {
		t.Errorf("the sum is % x", b[4:8])
	}
	head := []byte{9, 3, 10, 0}
	places := []byte{255, 1, 252, 1, 246, 2}
	if !slices.Equal(b[:4], head) || !slices.Equal(b[8:14], places) || string(b[14:246]) != strings.Repeat("\x00", 232) || string(b[246:]) != "zz4567"+"m23"+"a" {
		t.Errorf("% x", b)
	}
}

// TestPg1BytesOfAll: the two bytes that tell how many all cells have never need the second one; and the sum is of all bytes, the kind too.
func TestPg1BytesOfAll(t *testing.T) {
	for _, m := range models() {
		same(t, fmt.Sprint(m), made(t, m), m)
	}
	if newPage(t, 1).Bytes()[4:8] == newPage(t, 2).Bytes()[4:8] {
		t.Error("one sum of two kinds")
	}
}

func TestPg1Read(t *testing.T) {
	for _, m := range models() {
		s := m.bytes()
		p := read(t, s)
		same(t, fmt.Sprintf("Read of %v", m), p, m)
		must(t, "Put", p.Put("a", "x"), second(m.put("a", "x")))
		after, _ := m.put("a", "x")
		same(t, "Put behind Read", p, after)
		same(t, "read again", read(t, s), m)
	}
}

// TestPg1ReadNearBounds: cells at the bounds that the chapter names are those of a page.
func TestPg1ReadNearBounds(t *testing.T) {
	for _, c := range []cell{{"k", ""}, {"k", strings.Repeat("v", 99)}, {strings.Repeat("k", 80), ""}, {strings.Repeat("k", 80), strings.Repeat("v", 20)}, {strings.Repeat("k", 79), strings.Repeat("v", 21)}} {
		m := model{5, []cell{{"b", "v"}, c, {"z", ""}}}
		same(t, fmt.Sprint(c), read(t, m.bytes()), m)
	}
}

func TestPg1ReadLengths(t *testing.T) {
	for _, m := range models() {
		s := m.bytes()
		for n := range 256 {
			isNone(t, fmt.Sprintf("the first %d bytes", n), s[:n])
			isNone(t, fmt.Sprintf("the last %d bytes", n), s[256-n:])
		}
		isNone(t, "a nought more", s+"\x00")
		isNone(t, "twice", s+s)
		isNone(t, "a nought ahead", "\x00"+s)
	}
}

func TestPg1ReadKindAndSum(t *testing.T) {
	for _, m := range models() {
		s := m.bytes()
		isNone(t, "a kind of nought", forged(s, func(b []byte) { b[0] = 0 }))
		for k := 4; k < 8; k++ {
			b := []byte(s)
			b[k] ^= 1
			isNone(t, fmt.Sprint("the sum's byte ", k), string(b))
		}
		isNone(t, "no sum", s[:4]+"\x00\x00\x00\x00"+s[8:])
		isNone(t, "the sum the other way round", s[:4]+string([]byte{s[7], s[6], s[5], s[4]})+s[8:])
	}
	isNone(t, "noughts", strings.Repeat("\x00", 256))
	isNone(t, "noughts with their sum", sealed(make([]byte, 256)))
}

// TestPg1ReadSumOfItself: the sum is that of the bytes with noughts in its place, not with what stands there.
func TestPg1ReadSumOfItself(t *testing.T) {
	b := []byte(some().bytes())
	binary.LittleEndian.PutUint32(b[4:8], crc32.ChecksumIEEE(b))
	isNone(t, "a sum of bytes with a sum", string(b))
	binary.LittleEndian.PutUint32(b[4:8], crc32.ChecksumIEEE(slices.Concat(b[:4], b[8:])))
	isNone(t, "a sum of the other bytes alone", string(b))
}

// TestPg1ReadCells: bytes with a right sum, of cells that may not be.
func TestPg1ReadCells(t *testing.T) {
	long := func(n int) string { return strings.Repeat("k", n) }
	for what, cells := range map[string][]cell{
		"an empty key":                          {{"", "v"}},
		"an empty key ahead of another":         {{"", "v"}, {"b", ""}},
		"an empty cell":                         {{"", ""}},
		"an empty cell ahead of another":        {{"", ""}, {"b", ""}},
		"a key of 81":                           {{long(81), ""}},
		"a key of 81 behind another":            {{"a", ""}, {long(81), "v"}},
		"a key of 100":                          {{long(100), ""}},
		"a key of 200":                          {{long(200), ""}},
		"a cell of 101":                         {{"k", long(100)}},
		"a cell of 101, of a long key":          {{long(80), long(21)}},
		"a cell of 240":                         {{"k", long(239)}},
		"a cell of 101 ahead of another":        {{"a", long(100)}, {"b", ""}},
		"a cell of 101 behind another":          {{"a", ""}, {"b", long(100)}},
		"the same key twice":                    {{"a", "1"}, {"a", "2"}},
		"keys that fall":                        {{"b", "1"}, {"a", "2"}},
		"keys of which the last falls":          {{"a", "1"}, {"c", "2"}, {"b", "3"}},
		"keys of which the second falls":        {{"b", "1"}, {"a", "2"}, {"c", "3"}},
		"keys of which the third is the second": {{"a", "1"}, {"b", "2"}, {"b", "2"}},
		"a key behind one that it begins":       {{"ab", "1"}, {"a", "2"}},
		"keys that rise only with their values": {{"a", "1"}, {"a", "12"}},
		"keys that rise as numbers with signs":  {{"\x80", ""}, {"\x7f", ""}},
	} {
		isNone(t, what, model{4, cells}.bytes())
	}
}

// TestPg1ReadCounts: bytes with a right sum, of which the count, or the number of bytes, is not that of the cells.
func TestPg1ReadCounts(t *testing.T) {
	for _, m := range models() {
		s := m.bytes()
		for k := range 256 {
			if byte(k) != s[1] {
				isNone(t, fmt.Sprintf("%d cells in place of %d", k, s[1]), forged(s, func(b []byte) { b[1] = byte(k) }))
			}
			if byte(k) != s[2] {
				isNone(t, fmt.Sprintf("%d bytes in place of %d", k, s[2]), forged(s, func(b []byte) { b[2] = byte(k) }))
			}
			if k != 0 {
				isNone(t, fmt.Sprintf("%d bytes more", 256*k), forged(s, func(b []byte) { b[3] = byte(k) }))
			}
		}
		if s[2] != 0 {
			isNone(t, "the higher byte first", forged(s, func(b []byte) { b[2], b[3] = b[3], b[2] }))
		}
	}
}

// TestPg1ReadPlaces: bytes with a right sum, with places that do not follow one another.
func TestPg1ReadPlaces(t *testing.T) {
	m := model{4, []cell{{"aaa", "11"}, {"bbb", "22"}, {"ccc", "33"}}}
	s := m.bytes()
	for what, places := range map[string][]byte{
		"the second where the first is":   {251, 3, 251, 3, 241, 3},
		"the third where the second is":   {251, 3, 246, 3, 246, 3},
		"the second behind the first":     {246, 3, 251, 3, 241, 3},
		"the first one first":             {241, 3, 246, 3, 251, 3},
		"the last behind all":             {251, 3, 246, 3, 255, 3},
		"the first at the beginning":      {0, 3, 246, 3, 241, 3},
		"the last at the beginning":       {251, 3, 246, 3, 0, 3},
		"the last on the places":          {251, 3, 246, 3, 13, 3},
		"the last one byte too early":     {251, 3, 246, 3, 240, 3},
		"the last one byte too late":      {251, 3, 246, 3, 242, 3},
		"a key longer than its cell":      {251, 6, 246, 3, 241, 3},
		"the last key longer":             {251, 3, 246, 3, 241, 6},
		"a key of 255":                    {251, 255, 246, 3, 241, 3},
		"a key of nought":                 {251, 0, 246, 3, 241, 3},
		"the last key of nought":          {251, 3, 246, 3, 241, 0},
		"noughts":                         {0, 0, 0, 0, 0, 0},
		"the key's size ahead of a place": {3, 251, 3, 246, 3, 241},
	} {
		isNone(t, what, forged(s, func(b []byte) { copy(b[8:], places) }))
	}
}

// TestPg1ReadOverlap: the last cell begins on the last byte of the places, and all else is as it must be.
func TestPg1ReadOverlap(t *testing.T) {
	last := "\x28" + strings.Repeat("k", 39)
	m := model{4, []cell{{"\x20", strings.Repeat("1", 99)}, {"\x21", strings.Repeat("2", 99)}, {last, "333"}}}
	if m.room() != -1 {
		t.Fatalf("room %d", m.room())
	}
	isNone(t, "a cell on the places", m.bytes())
	m.cells[2].value = "33"
	same(t, "a cell just behind the places", read(t, m.bytes()), m)
}

// TestPg1ReadPlacesAsCells: the places are, as bytes, cells that may be and whose keys rise; and of more places than there are bytes none is looked for.
func TestPg1ReadPlacesAsCells(t *testing.T) {
	b := make([]byte, 256)
	b[0] = 1
	for k := range 124 {
		b[8+2*k], b[9+2*k] = byte(254-2*k), 1
	}
	for count := 63; count <= 255; count++ {
		used := min(2*count, 248)
		b[1], b[2] = byte(count), byte(used)
		isNone(t, fmt.Sprintf("%d cells", count), sealed(b))
	}
}

// TestPg1ReadBetween: bytes with a right sum, one of which, between the places and the cells, is no nought.
func TestPg1ReadBetween(t *testing.T) {
	for _, m := range models() {
		s := m.bytes()
		first := 8 + 2*len(m.cells)
		for at := first; at < first+m.room(); at++ {
			for _, x := range []byte{1, 128, 255} {
				isNone(t, fmt.Sprintf("the byte %d is %d", at, x), forged(s, func(b []byte) { b[at] = x }))
			}
		}
	}
}

func TestPg1Free(t *testing.T) {
	if p := newPage(t, 1); p.Free() != 246 {
		t.Errorf("Free of an empty page: %d", p.Free())
	}
	for room := range 42 {
		p := made(t, leaving(room))
		if want := max(room-2, 0); p.Free() != want {
			t.Errorf("Free with %d bytes between: %d, want %d", room, p.Free(), want)
		}
	}
	if p := made(t, most()); p.Free() != 0 || p.Len() != 82 {
		t.Errorf("Free of a page of %d cells: %d", p.Len(), p.Free())
	}
}

// TestPg1FreeIsWhatMayBePut: a cell of so many bytes has room, and one of one byte more has not.
func TestPg1FreeIsWhatMayBePut(t *testing.T) {
	for room := range 42 {
		for _, free := range []int{max(room-2, 0), max(room-2, 0) + 1} {
			p, m := made(t, leaving(room)), leaving(room)
			if free == 0 {
				continue
			}
			want := api.OK
			if free > room-2 {
				want = api.ErrFull
			}
			must(t, fmt.Sprintf("Put of %d bytes with %d between", free, room), p.Put("d", strings.Repeat("v", free-1)), want)
			m, _ = m.put("d", strings.Repeat("v", free-1))
			same(t, "behind Put", p, m)
		}
	}
}

func TestPg1At(t *testing.T) {
	for _, m := range models() {
		p := made(t, m)
		for k := -3; k < len(m.cells)+300; k++ {
			want := cell{}
			if k >= 0 && k < len(m.cells) {
				want = m.cells[k]
			}
			if key, value := p.At(k); key != want.key || value != want.value {
				t.Fatalf("At(%d) of %d: %q, %q, want %q, %q", k, len(m.cells), key, value, want.key, want.value)
			}
		}
	}
}

func TestPg1Find(t *testing.T) {
	p := made(t, model{1, []cell{{"b", "1"}, {"bb", "2"}, {"d", "3"}, {"\x80", "4"}}})
	for _, x := range []struct {
		key   string
		place int
		there bool
	}{
		{"", 0, false}, {"\x00", 0, false}, {"a", 0, false}, {"azzz", 0, false}, {"b", 0, true}, {"b\x00", 1, false}, {"b1", 1, false}, {"ba", 1, false}, {"bb", 1, true}, {"bba", 2, false}, {"c", 2, false}, {"d", 2, true}, {"d3", 3, false}, {"\x7f", 3, false}, {"\x80", 3, true}, {"\x80\x00", 4, false}, {"\xff", 4, false}, {strings.Repeat("b", 81), 2, false}, {strings.Repeat("\xff", 1000), 4, false}, {strings.Repeat("a", 1000), 0, false},
	} {
		finds(t, "four cells", p, x.key, x.place, x.there)
		finds(t, "no cell", newPage(t, 1), x.key, 0, false)
	}
}

// TestPg1FindAll: of as many cells as may be each key is found, and those between have their place.
func TestPg1FindAll(t *testing.T) {
	m := most()
	p := made(t, m)
	for k := range 256 {
		key := string([]byte{byte(k)})
		place, there := m.find(key)
		finds(t, "82 cells", p, key, place, there)
	}
}
