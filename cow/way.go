package cow

import (
	"slices"

	"quayside/api"
	"quayside/page"
)

// The kinds of a tree's pages.
const (
	leafKind  = 1
	innerKind = 2
)

const (
	bytesOfNumber = 2
	bitsOfByte    = 8
)

// none is the bound of keys that have none: no key is empty.
const none = ""

// cell is, in a leaf, a key and its value; in an inner page, what no key below a child is less than, and the child's number.
type cell struct{ key, value string }

func cellOf(key string, n int) cell {
	return cell{key, string([]byte{byte(n), byte(n >> bitsOfByte)})}
}

func (x cell) number() int { return int(x.value[0]) | int(x.value[1])<<bitsOfByte }

// span is where the keys below a page stand: not ahead of lo, and ahead of hi.
type span struct{ lo, hi string }

// step is a page, and where in it the way goes on.
type step struct {
	n     int // 0: of an empty tree, which has no page
	page  *page.Page
	in    span
	place int  // of the child that is next; in a leaf, of the key
	has   bool // whether the leaf has the key
}

func (s step) inner() bool { return s.page.Kind() == innerKind }

func (s step) at(k int) cell {
	key, value := s.page.At(k)
	return cell{key, value}
}

func (s step) cells() []cell {
	var cells []cell
	for k := range s.page.Len() {
		cells = append(cells, s.at(k))
	}
	return cells
}

// child is the number of a child's page, and where its keys stand.
func (s step) child(k int) (int, span) {
	x, in := s.at(k), s.in
	in.lo = max(in.lo, x.key)
	if k+1 < s.page.Len() {
		in.hi = s.at(k + 1).key
	}
	return x.number(), in
}

// towards is the step with the place to which a key leads.
func (s step) towards(key string) step {
	s.place, s.has = s.page.Find(key)
	// What is less than all that is told of children belongs below the first one.
	if s.inner() && !s.has {
		s.place = max(s.place-1, 0)
	}
	return s
}

// sound tells whether a page may be one of a tree, with its keys in its span.
func (s step) sound() bool {
	cells := s.cells()
	for _, x := range cells {
		if !s.mayHave(x) {
			return false
		}
	}
	return len(cells) > 0 && s.rises(cells)
}

func (s step) mayHave(x cell) bool {
	switch s.page.Kind() {
	case leafKind:
		return len(x.key) <= maxKey && len(x.value) <= maxValue
	case innerKind:
		return len(x.key) <= maxKey && len(x.value) == bytesOfNumber
	}
	return false
}

// rises tells whether cells, of which each key is greater than the one ahead, stand in the page's span.
func (s step) rises(cells []cell) bool {
	if last := cells[len(cells)-1].key; s.in.hi != none && last >= s.in.hi {
		return false
	}
	if s.inner() {
		// What is told of the first child may be less than what is told of the page itself, which holds of the child too.
		return len(cells) == 1 || s.in.lo < cells[1].key
	}
	return s.in.lo <= cells[0].key
}

// read is the page of a number, below those of a way.
func (t *Tree) read(way []step, n int, in span) (step, api.Errno) {
	b, e := t.space.Read(n)
	if e != api.OK {
		return step{}, e
	}
	p, e := page.Read(b)
	if e != api.OK {
		return step{}, e
	}
	s := step{n: n, page: p, in: in}
	// A page that is below itself would lead down without an end.
	again := slices.ContainsFunc(way, func(x step) bool { return x.n == n })
	if again || !s.sound() {
		return step{}, api.ErrPage
	}
	return s, api.OK
}

// way leads from the root down to the leaf in which a key is, if it is there; in an empty tree, to a leaf without keys that is no page.
func (t *Tree) way(key string) ([]step, api.Errno) {
	if t.root == 0 {
		p, _ := page.New(leafKind)
		return []step{{page: p}}, api.OK
	}
	var way []step
	for n, in := t.root, (span{}); ; {
		s, e := t.read(way, n, in)
		if e != api.OK {
			return nil, e
		}
		s = s.towards(key)
		way = append(way, s)
		if !s.inner() {
			return way, api.OK
		}
		n, in = s.child(s.place)
	}
}

// walk tells all pages, and how many are above each, up to an error. None is told twice: no page with keys stands in two spans.
func (t *Tree) walk(tell func(s step, above int) api.Errno) api.Errno {
	var down func(way []step, n int, in span) api.Errno
	down = func(way []step, n int, in span) api.Errno {
		s, e := t.read(way, n, in)
		if e != api.OK {
			return e
		}
		if e := tell(s, len(way)); e != api.OK || !s.inner() {
			return e
		}
		for k := range s.page.Len() {
			n, in := s.child(k)
			if e := down(append(way, s), n, in); e != api.OK {
				return e
			}
		}
		return api.OK
	}
	if t.root == 0 {
		return api.OK
	}
	return down(nil, t.root, span{})
}
