package table

import (
	"iter"
	"strings"

	"quayside/api"
	"quayside/btree"
	"quayside/hash"
	"quayside/value"
)

// place is some values as bytes, that stand byte by byte as the values do by layer 5's Compare, one behind the other, whatever they are; no two lists of values have the same.
type place string

// A text's end is told by two noughts, so that it stands ahead of all texts that go on; a nought inside it is told by other bytes.
const (
	nought    = "\x00"
	noughtIn  = "\x00\xff"
	endOfText = "\x00\x00"
)

// last stands behind each place that a value begins.
const last = "\xff"

func placeOf(values ...api.Value) place {
	var b strings.Builder
	for _, v := range values {
		// The bytes of numbers rise with them. Those of texts do not: they begin with the size.
		numbers, _ := value.Put(api.Row{{Kind: api.Int, N: v.Kind}, {Kind: api.Int, N: v.N}})
		b.WriteString(numbers)
		b.WriteString(strings.ReplaceAll(v.S, nought, noughtIn))
		b.WriteString(endOfText)
	}
	return place(b.String())
}

// edge is ahead of all places that a value begins, or behind them, and so between those of lesser and of greater values.
func edge(v api.Value, behind bool) place {
	if behind {
		return placeOf(v) + last
	}
	return placeOf(v)
}

// index is the numbers of rows by their values in one column.
type index struct {
	same  hash.Index
	order btree.Tree[place, int] // by the value, behind which the key stands
}

func (x index) with(v api.Value, key place, n int) index {
	return index{x.same.With(v, n), x.order.With(placeOf(v)+key, n)}
}

func (x index) without(v api.Value, key place, n int) index {
	return index{x.same.Without(v, n), x.order.Without(placeOf(v) + key)}
}

// between goes over the numbers of the rows whose value is no null and stands between two.
func (x index) between(lo, hi api.Bound) iter.Seq[int] {
	from, to := edge(api.Value{}, true), edge(hi.Val, !hi.Open)
	if lo.Has {
		from = max(from, edge(lo.Val, lo.Open))
	}
	return func(yield func(n int) bool) {
		for at, n := range x.order.From(from) {
			if hi.Has && at >= to || !yield(n) {
				return
			}
		}
	}
}
