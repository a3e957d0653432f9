package cow

import (
	"slices"

	"quayside/api"
)

// Of a page's bytes so many are for cells; each takes some more than its key and its value have.
const (
	bytesOfCells = api.PageSize - 8
	bytesOfPlace = 2
)

// An inner page has two children at least, and a leaf one key: so with n keys there are less than 2 n pages.
const (
	leastInner = 2
	leastLeaf  = 1
)

// swap is cells in place of those of a page from one place to another.
type swap struct {
	from, to int
	cells    []cell
}

// swapped are a page's cells behind a swap on the way of a key.
func (s step) swapped(x swap, key string) []cell {
	all := s.cells()
	if s.inner() && len(x.cells) > 0 {
		// What was told of a child holds of what stands for it, but for a key that was put and is less.
		x.cells[0].key = min(all[x.from].key, key)
	}
	return slices.Concat(all[:x.from], x.cells, all[x.to:])
}

// parted are a page's cells behind a swap, as those of one page, or of two.
func (s step) parted(cells []cell, x swap) [][]cell {
	if len(cells) == 0 {
		return nil
	}
	if size(cells...) <= bytesOfCells {
		return [][]cell{cells}
	}
	k := middle(cells)
	// Where keys come that are greater than all others, the pages that are left behind stay full.
	if s.in.hi == none && x.to == s.page.Len() {
		k = len(cells) - s.least()
	}
	return [][]cell{cells[:k], cells[k:]}
}

func (s step) least() int {
	if s.inner() {
		return leastInner
	}
	return leastLeaf
}

func size(cells ...cell) int {
	n := 0
	for _, x := range cells {
		n += bytesOfPlace + len(x.key) + len(x.value)
	}
	return n
}

// middle is the place that parts cells into halves, as far as may be, if one page has no room for them.
// Each half has room then: behind a swap the cells have at most 344 bytes, those of a leaf, of at most 96 each, and 379, those of an inner page, of at most 68 each, of which there are two in each half.
func middle(cells []cell) int {
	all, ahead, k := size(cells...), 0, 0
	for 2*ahead+size(cells[k]) <= all {
		ahead += size(cells[k])
		k++
	}
	return k
}

// joined are the cells of two inner pages beside one another; key is what is told of the second one.
func joined(ahead, behind []cell, key string) []cell {
	all := slices.Concat(ahead, behind)
	if k := len(ahead); k < len(all) {
		// It holds of its first child too, and stands behind all that is told of those ahead, which what is told of the child need not.
		all[k].key = key
	}
	return all
}
