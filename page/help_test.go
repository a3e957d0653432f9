package page_test

import (
	"encoding/binary"
	"fmt"
	"hash/crc32"
	"slices"
	"strings"
	"testing"

	"quayside/api"
	"quayside/page"
)

type cell struct{ key, value string }

// model is a page as a plain list of cells.
type model struct {
	kind  int
	cells []cell
}

// bytes are those that the chapter's words give the cells, whatever these are, and wherever they fit.
func (m model) bytes() string {
	b := make([]byte, 256)
	end, used := 256, 0
	for _, c := range m.cells {
		end -= len(c.key) + len(c.value)
		used += len(c.key) + len(c.value)
		copy(b[end:], c.key+c.value)
	}
	end = 256
	for k, c := range m.cells {
		end -= len(c.key) + len(c.value)
		b[8+2*k], b[9+2*k] = byte(end), byte(len(c.key))
	}
	b[0], b[1], b[2], b[3] = byte(m.kind), byte(len(m.cells)), byte(used%256), byte(used/256)
	return sealed(b)
}

// sealed are bytes with the sum that they must have.
func sealed(b []byte) string {
	out := slices.Clone(b)
	clear(out[4:8])
	binary.LittleEndian.PutUint32(out[4:8], crc32.ChecksumIEEE(out))
	return string(out)
}

// forged are a page's bytes with others in place of some, and the sum that they must have then.
func forged(s string, change func(b []byte)) string {
	b := []byte(s)
	change(b)
	return sealed(b)
}

// room is how many bytes there are between the places and the cells.
func (m model) room() int {
	room := 256 - 8
	for _, c := range m.cells {
		room -= 2 + len(c.key) + len(c.value)
	}
	return room
}

func (m model) free() int { return max(m.room()-2, 0) }

// find is gone over one by one.
func (m model) find(key string) (int, bool) {
	ahead := 0
	for k, c := range m.cells {
		if c.key == key {
			return k, true
		}
		if strings.Compare(c.key, key) < 0 {
			ahead++
		}
	}
	return ahead, false
}

func (m model) put(key, value string) (model, api.Errno) {
	if len(key) < 1 || len(key) > 80 || len(key)+len(value) > 100 {
		return m, api.ErrArg
	}
	had, _ := m.drop(key)
	k, _ := had.find(key)
	had.cells = slices.Insert(had.cells, k, cell{key, value})
	if had.room() < 0 {
		return m, api.ErrFull
	}
	return had, api.OK
}

func (m model) drop(key string) (model, api.Errno) {
	cells := slices.DeleteFunc(slices.Clone(m.cells), func(c cell) bool { return c.key == key })
	if len(cells) == len(m.cells) {
		return model{m.kind, cells}, api.ErrNone
	}
	return model{m.kind, cells}, api.OK
}

func (m model) split(k int) (model, model) {
	return model{m.kind, slices.Clone(m.cells[:k])}, model{m.kind, slices.Clone(m.cells[k:])}
}

func (m model) join(o model) (model, api.Errno) {
	if m.kind != o.kind {
		return m, api.ErrArg
	}
	for _, c := range m.cells {
		for _, d := range o.cells {
			if c.key >= d.key {
				return m, api.ErrArg
			}
		}
	}
	joined := model{m.kind, slices.Concat(m.cells, o.cells)}
	if joined.room() < 0 {
		return m, api.ErrFull
	}
	return joined, api.OK
}

func must(t *testing.T, what string, got, want api.Errno) {
	t.Helper()
	if got != want {
		t.Fatalf("%s: error %d, want %d", what, got, want)
	}
}

func newPage(t *testing.T, kind int) *page.Page {
	t.Helper()
	p, e := page.New(kind)
	if p == nil || e != api.OK {
		t.Fatalf("New(%d): %v, error %d", kind, p, e)
	}
	return p
}

// made is the page of a model, put in an order that looks like chance.
func made(t *testing.T, m model) *page.Page {
	t.Helper()
	p := newPage(t, m.kind)
	cells := slices.Clone(m.cells)
	x := dice(len(cells) + 77)
	for len(cells) > 0 {
		k := x.below(len(cells))
		must(t, fmt.Sprintf("Put(%q, %q)", cells[k].key, cells[k].value), p.Put(cells[k].key, cells[k].value), api.OK)
		cells = slices.Delete(cells, k, k+1)
	}
	return p
}

func read(t *testing.T, s string) *page.Page {
	t.Helper()
	p, e := page.Read(s)
	if p == nil || e != api.OK {
		t.Fatalf("Read(%q): %v, error %d", s, p, e)
	}
	return p
}

// isNone: the bytes are those of no page.
func isNone(t *testing.T, what, s string) {
	t.Helper()
	if p, e := page.Read(s); p != nil || e != api.ErrPage {
		t.Fatalf("%s: Read answers error %d, want %d; % x", what, e, api.ErrPage, s)
	}
}

func bytesAre(t *testing.T, what string, p *page.Page, want string) {
	t.Helper()
	if got := p.Bytes(); got != want {
		t.Fatalf("%s: bytes\n% x, want\n% x", what, got, want)
	}
}

func finds(t *testing.T, what string, p *page.Page, key string, place int, there bool) {
	t.Helper()
	if k, ok := p.Find(key); k != place || ok != there {
		t.Fatalf("%s: Find(%q): %d, %t, want %d, %t", what, key, k, ok, place, there)
	}
}

// same: the page answers what the model has, and no more.
func same(t *testing.T, what string, p *page.Page, m model) {
	t.Helper()
	if p.Kind() != m.kind || p.Len() != len(m.cells) || p.Free() != m.free() {
		t.Fatalf("%s: Kind %d, Len %d, Free %d, want %d, %d, %d", what, p.Kind(), p.Len(), p.Free(), m.kind, len(m.cells), m.free())
	}
	for k, c := range m.cells {
		if key, value := p.At(k); key != c.key || value != c.value {
			t.Fatalf("%s: At(%d): %q, %q, want %q, %q", what, k, key, value, c.key, c.value)
		}
		finds(t, what, p, c.key, k, true)
		finds(t, what, p, c.key+"\x00", k+1, k+1 < len(m.cells) && m.cells[k+1].key == c.key+"\x00")
	}
	for _, k := range []int{-1, len(m.cells), api.MinInt, api.MaxInt} {
		if key, value := p.At(k); key != "" || value != "" {
			t.Fatalf("%s: At(%d): %q, %q, want nothing", what, k, key, value)
		}
	}
	bytesAre(t, what, p, m.bytes())
}

// some are cells of the kinds of bytes that there are: noughts, letters, the last byte, one key the beginning of another one.
func some() model {
	return model{7, []cell{
		{"\x00", "\x00\x00"}, {"\x00\x00", ""}, {"a", "1"}, {"a\x00", "second"}, {"ab", ""}, {"b", strings.Repeat("v", 40)}, {strings.Repeat("k", 80), ""}, {"\x80", "\xff"}, {"\xff", "last"}, {"\xff\xff", "\x00"},
	}}
}

// most has as many cells as may be.
func most() model {
	m := model{kind: 255}
	for k := range 82 {
		m.cells = append(m.cells, cell{key: string([]byte{byte(3 * k)})})
	}
	return m
}

// leaving is a model with so many bytes between its places and its cells, at most 41.
func leaving(room int) model {
	return model{3, []cell{{"a", strings.Repeat("1", 99)}, {"c", strings.Repeat("2", 99)}, {"e", strings.Repeat("3", 41-room)}}}
}

// models are those of no cell, of one, and of more.
func models() []model {
	return []model{
		{kind: 1}, {kind: 255}, {2, []cell{{"k", ""}}}, {2, []cell{{strings.Repeat("k", 80), strings.Repeat("v", 20)}}}, {1, []cell{{"k", strings.Repeat("v", 99)}}},
		some(), most(), leaving(0), leaving(1), leaving(2), leaving(3), leaving(30),
	}
}

// dice are numbers that look like chance, the same ones in each run.
type dice uint64

func (x *dice) below(n int) int {
	*x ^= *x << 13
	*x ^= *x >> 7
	*x ^= *x << 17
	return int(uint64(*x) >> 1 % uint64(n))
}

// text are so many bytes, each of few letters, so that keys come again.
func (x *dice) text(n, letters int) string {
	b := make([]byte, n)
	for k := range b {
		b[k] = byte(x.below(letters) * 255 / max(letters-1, 1))
	}
	return string(b)
}

// drawn are a key and a value, mostly small ones, a few that are none.
func (x *dice) drawn() (string, string) {
	sizes := []int{1, 1, 2, 2, 3, 4, 9, 30, 79, 80, 81, 0}
	key := x.text(sizes[x.below(len(sizes))], 2+x.below(3))
	return key, x.text([]int{0, 1, 2, 5, 10, 19, 20, 21, 60, 99}[x.below(10)], 256)
}
