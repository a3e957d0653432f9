package cow_test

import (
	"fmt"
	"iter"
	"maps"
	"slices"
	"strings"
	"testing"

	"quayside/api"
	"quayside/cow"
	"quayside/disk"
	"quayside/page"
	"quayside/space"
)

func must(t *testing.T, what string, got, want api.Errno) {
	t.Helper()
	if got != want {
		t.Fatalf("%s: error %d, want %d", what, got, want)
	}
}

// dice are numbers that look like chance, the same ones in each run.
type dice uint64

func (x *dice) below(n int) int {
	*x ^= *x << 13
	*x ^= *x >> 7
	*x ^= *x << 17
	return int(uint64(*x) >> 20 % uint64(n))
}

func pick[T any](x *dice, of ...T) T { return of[x.below(len(of))] }

// mixed are the items in an order that looks like chance.
func mixed[T any](x dice, items []T) []T {
	out := slices.Clone(items)
	for k := len(out) - 1; k > 0; k-- {
		j := x.below(k + 1)
		out[k], out[j] = out[j], out[k]
	}
	return out
}

func falling[T any](items []T) []T {
	out := slices.Clone(items)
	slices.Reverse(out)
	return out
}

// outward are the items from the middle on, on both sides in turns.
func outward[T any](items []T) []T {
	var out []T
	for left, right := len(items)/2-1, len(items)/2; left >= 0 || right < len(items); left, right = left-1, right+1 {
		if right < len(items) {
			out = append(out, items[right])
		}
		if left >= 0 {
			out = append(out, items[left])
		}
	}
	return out
}

// orders are the items in each order.
func orders(items []string) map[string][]string {
	return map[string][]string{
		"rising": items, "falling": falling(items), "outward": outward(items), "inward": falling(outward(items)),
		"mixed": mixed(dice(77), items), "mixed otherwise": mixed(dice(4711), items),
	}
}

// numbered are so many keys, rising, of so many bytes each, of which the first ones are alike.
func numbered(n, bytes int) []string {
	var keys []string
	for k := range n {
		keys = append(keys, fmt.Sprintf("%0*d", bytes, k))
	}
	return keys
}

// short are so many keys, rising, of one byte, or of two.
func short(n int) []string {
	var keys []string
	for k := range n {
		if k < 256 {
			keys = append(keys, string([]byte{byte(k)}))
		} else {
			keys = append(keys, string([]byte{byte(k - 256), byte(k)}))
		}
	}
	slices.Sort(keys)
	return keys
}

// unlike are so many keys, rising, of 1 to 64 bytes.
func unlike(n int) []string {
	var keys []string
	for k := range n {
		keys = append(keys, strings.Repeat(string([]byte{byte('A' + k%26), byte('a' + k/26)}), 1+k%32)[k%2:])
	}
	slices.Sort(keys)
	return keys
}

// valueOf is a value of 0 to 30 bytes that tells its key and a number.
func valueOf(key string, n int) string {
	sum := n
	for _, b := range []byte(key) {
		sum = sum*31 + int(b)
	}
	text := fmt.Sprintf("%d of %.24s", sum%1000, key)
	return text[:min(len(text), max(sum%31, -sum%31))]
}

// model is what a tree has.
type model map[string]string

func (m model) keys() []string { return slices.Sorted(maps.Keys(m)) }

// from are its keys that are not below one, rising.
func (m model) from(key string) []string {
	keys := m.keys()
	k, _ := slices.BinarySearch(keys, key)
	return keys[k:]
}

func newDisk(t *testing.T, n int) *disk.Disk {
	t.Helper()
	d, e := disk.New(n)
	must(t, fmt.Sprintf("New(%d)", n), e, api.OK)
	return d
}

func opened(t *testing.T, d *disk.Disk) *space.Space {
	t.Helper()
	s, e := space.Open(d, 0, d.Size())
	if s == nil || e != api.OK {
		t.Fatalf("Open: %v, error %d", s, e)
	}
	return s
}

// spaceOf is a space of so many pages, on a disk of its own, which it has whole.
func spaceOf(t *testing.T, pages int) (*disk.Disk, *space.Space) {
	t.Helper()
	d := newDisk(t, 8*(pages+3))
	return d, opened(t, d)
}

func of(t *testing.T, s *space.Space, root int) *cow.Tree {
	t.Helper()
	x, e := cow.Of(s, root)
	if x == nil || e != api.OK || x.Root() != root {
		t.Fatalf("Of(%d): %v, error %d", root, x, e)
	}
	return x
}

// treeOf is a tree of keys that were put one by one, alone in a space of 500 pages, and its model.
func treeOf(t *testing.T, keys ...string) (*space.Space, *cow.Tree, model) {
	t.Helper()
	_, s := spaceOf(t, 500)
	x, m := of(t, s, 0), model{}
	puts(t, x, m, 0, keys...)
	return s, x, m
}

func puts(t *testing.T, x *cow.Tree, m model, n int, keys ...string) {
	t.Helper()
	for _, key := range keys {
		m[key] = valueOf(key, n)
		must(t, fmt.Sprintf("Put(%q)", key), x.Put(key, m[key]), api.OK)
	}
}

func drops(t *testing.T, x *cow.Tree, m model, keys ...string) {
	t.Helper()
	for _, key := range keys {
		delete(m, key)
		must(t, fmt.Sprintf("Drop(%q)", key), x.Drop(key), api.OK)
	}
}

func commits(t *testing.T, s *space.Space) {
	t.Helper()
	must(t, "Commit", s.Commit(), api.OK)
}

func gets(t *testing.T, what string, x *cow.Tree, key, want string) {
	t.Helper()
	if value, e := x.Get(key); value != want || e != api.OK {
		t.Fatalf("%s: Get(%q): %q, error %d, want %q", what, key, value, e, want)
	}
}

// refusesGet: Get of a key is an error, and nothing besides.
func refusesGet(t *testing.T, what string, x *cow.Tree, key string, want api.Errno) {
	t.Helper()
	if value, e := x.Get(key); value != "" || e != want {
		t.Fatalf("%s: Get(%q): %q, error %d, want nothing, error %d", what, key, value, e, want)
	}
}

// pagesAre: Pages are these.
func pagesAre(t *testing.T, what string, x *cow.Tree, want ...int) {
	t.Helper()
	if pages, e := x.Pages(); !slices.Equal(pages, want) || e != api.OK {
		t.Fatalf("%s: Pages: %d, error %d, want %d", what, pages, e, want)
	}
}

func refusesPages(t *testing.T, what string, x *cow.Tree, want api.Errno) {
	t.Helper()
	if pages, e := x.Pages(); len(pages) != 0 || e != want {
		t.Fatalf("%s: Pages: %d, error %d, want none, error %d", what, pages, e, want)
	}
}

// told are the keys that an iterator tells; the values must be those of the model.
func told(t *testing.T, what string, all iter.Seq2[string, string], m model) []string {
	t.Helper()
	var keys []string
	for key, value := range all {
		if want, has := m[key]; !has || value != want {
			t.Fatalf("%s: told %q, %q, want %q, %t", what, key, value, want, has)
		}
		keys = append(keys, key)
	}
	return keys
}

func fromIs(t *testing.T, what string, x *cow.Tree, m model, key string) {
	t.Helper()
	if keys, want := told(t, what, x.From(key), m), m.from(key); !slices.Equal(keys, want) {
		t.Fatalf("%s: From(%q): %q, want %q", what, key, keys, want)
	}
}

// inUse are all pages in use of a space.
func inUse(s *space.Space) []int {
	var pages []int
	for n := 1; n <= s.Pages(); n++ {
		if _, e := s.Read(n); e == api.OK {
			pages = append(pages, n)
		}
	}
	return pages
}

// holds: a tree has what its model has, in whatever way it is asked, and is as it must be.
func holds(t *testing.T, what string, s *space.Space, x *cow.Tree, m model) {
	t.Helper()
	must(t, what+": Check", x.Check(), api.OK)
	fromIs(t, what, x, m, "")
	for key, value := range m {
		gets(t, what, x, key, value)
	}
	f := formOf(t, what, s, x.Root())
	if !slices.Equal(f.keys, m.keys()) {
		t.Fatalf("%s: keys %q, want %q", what, f.keys, m.keys())
	}
	pagesAre(t, what, x, slices.Sorted(slices.Values(f.pages))...)
	if len(f.pages) > 2*len(m) || (x.Root() == 0) != (len(m) == 0) {
		t.Fatalf("%s: %d pages with %d keys, the root %d", what, len(f.pages), len(m), x.Root())
	}
}

// alone: a tree that was laid by Put and Drop holds its model, no page is in use but for its own, and none of them has less than it must, lest there be too many.
func alone(t *testing.T, what string, s *space.Space, x *cow.Tree, m model) {
	t.Helper()
	holds(t, what, s, x, m)
	for _, n := range inUse(s) {
		if p := readPage(t, s, n); p.Len() < p.Kind() {
			t.Fatalf("%s: the page %d of the kind %d has %d cells", what, n, p.Kind(), p.Len())
		}
	}
	if s.Used() != len(inUse(s)) {
		t.Fatalf("%s: Used %d", what, s.Used())
	}
	pagesAre(t, what, x, inUse(s)...)
}

// form is how a tree lies in pages.
type form struct {
	pages []int
	keys  []string
	deep  int // pages from the root to a leaf
}

// formOf reads a tree page by page, without layer 14, and holds it against the chapter's words.
func formOf(t *testing.T, what string, s *space.Space, root int) form {
	t.Helper()
	if root == 0 {
		return form{}
	}
	text, e := s.Read(root)
	must(t, fmt.Sprintf("%s: Read(%d)", what, root), e, api.OK)
	p, e := page.Read(text)
	must(t, fmt.Sprintf("%s: the page %d", what, root), e, api.OK)
	f := form{pages: []int{root}, deep: 1}
	for k := range p.Len() {
		key, value := p.At(k)
		switch {
		case p.Kind() == 1 && len(key) <= 64 && len(value) <= 30:
			f.keys = append(f.keys, key)
		case p.Kind() == 2 && len(key) <= 64 && len(value) == 2:
			child := formOf(t, what, s, int(value[0])+256*int(value[1]))
			if child.keys[0] < key || len(f.keys) > 0 && f.keys[len(f.keys)-1] >= key || k > 0 && child.deep+1 != f.deep {
				t.Fatalf("%s: the page %d tells %q of %q, behind %q", what, root, key, child.keys, f.keys)
			}
			f = form{append(f.pages, child.pages...), append(f.keys, child.keys...), child.deep + 1}
		default:
			t.Fatalf("%s: the page %d of the kind %d has %q, %q", what, root, p.Kind(), key, value)
		}
	}
	if len(f.keys) == 0 {
		t.Fatalf("%s: no keys below the page %d", what, root)
	}
	return f
}

// laid is a page that is written by hand, of a kind and of keys and values, with a right sum.
func laid(t *testing.T, s *space.Space, kind int, cells ...string) int {
	t.Helper()
	n, e := s.Alloc()
	must(t, "Alloc", e, api.OK)
	must(t, "Write", s.Write(n, bytesOf(t, kind, cells...)), api.OK)
	return n
}

func bytesOf(t *testing.T, kind int, cells ...string) string {
	t.Helper()
	p, e := page.New(kind)
	must(t, "New", e, api.OK)
	for k := 0; k < len(cells); k += 2 {
		must(t, "Put", p.Put(cells[k], cells[k+1]), api.OK)
	}
	return p.Bytes()
}

// two are a page's number as it stands in an inner page.
func two(n int) string { return string([]byte{byte(n), byte(n >> 8)}) }

// call is one of a tree's that may be an error.
type call struct {
	name string
	do   func(x *cow.Tree, key string) api.Errno
}

func calls() []call {
	return []call{
		{"Get", func(x *cow.Tree, key string) api.Errno { _, e := x.Get(key); return e }},
		{"Put", func(x *cow.Tree, key string) api.Errno { return x.Put(key, "new") }},
		{"Drop", func(x *cow.Tree, key string) api.Errno { return x.Drop(key) }},
		{"Pages", func(x *cow.Tree, _ string) api.Errno { _, e := x.Pages(); return e }},
		{"Check", func(x *cow.Tree, _ string) api.Errno { return x.Check() }},
		{"Clear", func(x *cow.Tree, _ string) api.Errno { return x.Clear() }},
	}
}

// image are all bytes of a disk.
func image(t *testing.T, d *disk.Disk) string {
	t.Helper()
	var s strings.Builder
	for at := range d.Size() {
		text, e := d.Read(at)
		must(t, fmt.Sprintf("Read(%d)", at), e, api.OK)
		s.WriteString(text)
	}
	return s.String()
}

// diskOf is a disk of bytes, all of them sure.
func diskOf(t *testing.T, image string) *disk.Disk {
	t.Helper()
	d := newDisk(t, len(image)/32)
	for at := range d.Size() {
		must(t, "Write", d.Write(at, image[at*32:at*32+32]), api.OK)
	}
	must(t, "Flush", d.Flush(), api.OK)
	return d
}

// putOff lets the power of a disk go off, and writes nothing.
func putOff(t *testing.T, d *disk.Disk) {
	t.Helper()
	must(t, "Fuse(0)", d.Fuse(0), api.OK)
	must(t, "Flush", d.Flush(), api.ErrOff)
}
