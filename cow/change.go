package cow

import (
	"quayside/api"
	"quayside/page"
)

// change is what becomes of a tree's pages. None of them is written or released before there are enough for all of it.
type change struct {
	tree  *Tree
	taken []int // taken into use by the change
	spare []int // not of the tree any more, and not committed: they may be written
	gone  []int // not of the tree any more, and committed
	laid  []laid
}

// laid is a page that is to be written.
type laid struct {
	n    int
	page *page.Page
}

// change swaps cells in the leaf at the end of a key's way, and lays the pages of the way anew.
func (t *Tree) change(way []step, key string, x swap) api.Errno {
	c := &change{tree: t}
	root, e := c.climb(way, key, x)
	if e == api.OK {
		e = c.write()
	}
	if e != api.OK {
		c.release(c.taken)
		return e
	}
	c.release(c.spare)
	c.release(c.gone)
	t.root = root
	return api.OK
}

func (c *change) write() api.Errno {
	for _, x := range c.laid {
		if e := c.tree.space.Write(x.n, x.page.Bytes()); e != api.OK {
			return e
		}
	}
	return api.OK
}

func (c *change) release(pages []int) {
	for _, n := range pages {
		c.tree.space.Release(n)
	}
}

// leave lets a page not be of the tree any more.
func (c *change) leave(n int) {
	switch {
	case n == 0:
	case c.tree.space.Fresh(n):
		c.spare = append(c.spare, n)
	default:
		c.gone = append(c.gone, n)
	}
}

// take is a page that may be written; the last spare one first, so that a page that is laid anew stays where it was, if it may.
func (c *change) take() (int, api.Errno) {
	if last := len(c.spare) - 1; last >= 0 {
		n := c.spare[last]
		c.spare = c.spare[:last]
		return n, api.OK
	}
	n, e := c.tree.space.Alloc()
	if e == api.OK {
		c.taken = append(c.taken, n)
	}
	return n, e
}

// lay is the number of a page with cells, for which it has room.
func (c *change) lay(kind int, cells []cell) (int, api.Errno) {
	n, e := c.take()
	if e != api.OK {
		return 0, e
	}
	p, _ := page.New(kind)
	for _, x := range cells {
		p.Put(x.key, x.value)
	}
	c.laid = append(c.laid, laid{n, p})
	return n, api.OK
}

// climb swaps cells in the last page of a way, and in each one above it what stands for the one below then; the root's number.
func (c *change) climb(way []step, key string, x swap) (int, api.Errno) {
	for k := len(way); k > 0; k-- {
		up, e := c.lift(way[:k], key, x)
		if e != api.OK {
			return 0, e
		}
		x = up
	}
	switch len(x.cells) {
	case 0:
		return 0, api.OK
	case 1:
		return x.cells[0].number(), api.OK
	}
	return c.lay(innerKind, x.cells)
}

// lift swaps cells in the last page of a way; what is to be swapped in the page above it then.
func (c *change) lift(way []step, key string, x swap) (swap, api.Errno) {
	s, above := way[len(way)-1], way[:len(way)-1]
	cells := s.swapped(x, key)
	c.leave(s.n)
	if len(above) == 0 && s.inner() && len(cells) == 1 {
		return swap{cells: cells}, api.OK // an only child is the root itself
	}
	up := swap{}
	if len(above) > 0 {
		var e api.Errno
		if cells, up, e = c.filled(way, cells); e != api.OK {
			return swap{}, e
		}
	}
	for _, part := range s.parted(cells, x) {
		n, e := c.lay(s.page.Kind(), part)
		if e != api.OK {
			return swap{}, e
		}
		up.cells = append(up.cells, cellOf(part[0].key, n))
	}
	return up, api.OK
}

// filled are the cells of a way's last page, and which ones of the page above it they stand for: with those of a neighbour, if it is an inner page that has one child left.
func (c *change) filled(way []step, cells []cell) ([]cell, swap, api.Errno) {
	s, parent := way[len(way)-1], way[len(way)-2]
	here := parent.place
	if !s.inner() || len(cells) != 1 || parent.page.Len() == 1 {
		return cells, swap{from: here, to: here + 1}, api.OK
	}
	if here == 0 {
		beside, e := c.beside(way, 1)
		return joined(cells, beside, parent.at(1).key), swap{from: 0, to: 2}, e
	}
	beside, e := c.beside(way, here-1)
	return joined(beside, cells, parent.at(here).key), swap{from: here - 1, to: here + 1}, e
}

// beside are the cells of a neighbour of a way's last page, which leaves the tree.
func (c *change) beside(way []step, place int) ([]cell, api.Errno) {
	n, in := way[len(way)-2].child(place)
	s, e := c.tree.read(way, n, in)
	if e != api.OK {
		return nil, e
	}
	if !s.inner() {
		return nil, api.ErrPage
	}
	c.leave(n)
	return s.cells(), api.OK
}
