package btree_test

import (
	"fmt"
	"math"
	"slices"
	"testing"

	"quayside/btree"
)

// TestR1: every call ends without a panic, at odd keys too, even at some that are unlike themselves.
func TestR1(t *testing.T) {
	defer func() {
		if r := recover(); r != nil {
			t.Error("panic:", r)
		}
	}()
	var x btree.Tree[float64, int]
	for n := range 500 {
		for _, key := range []float64{math.NaN(), math.Inf(-1), math.Inf(1), math.Copysign(0, -1), 0, float64(n), float64(-n) / 7} {
			x = x.With(key, n)
			x.Get(key)
			for range x.From(key) {
				break
			}
			if n%3 == 0 {
				x = x.Without(key)
			}
		}
	}
	for k := range x.All() {
		x = x.Without(k)
	}
	x.Len()
	x.Deep()
	x.Without(math.NaN())
}

// TestR1Ends: behind its end an iterator is told nothing more, and a tree without keys tells nothing at all.
func TestR1Ends(t *testing.T) {
	var none btree.Tree[int, int]
	none.All()(func(int, int) bool { t.Error("All of none"); return true })
	none.From(0)(func(int, int) bool { t.Error("From of none"); return true })
	x, _ := numbered(rising(100)...)
	x.From(100)(func(k int, _ string) bool { t.Error("From beyond the greatest:", k); return true })
}

// TestR2: beside a false stands a zero value, of whatever kind.
func TestR2(t *testing.T) {
	type wide struct {
		a int
		b string
	}
	var x btree.Tree[int, wide]
	for k := range 100 {
		x = x.With(2*k, wide{k, "v"})
	}
	for k := range 100 {
		if v, ok := x.Get(2*k + 1); ok || v != (wide{}) {
			t.Errorf("Get(%d): %v, %v", 2*k+1, v, ok)
		}
	}
	var p btree.Tree[int, *wide]
	if v, ok := p.With(1, &wide{}).Get(2); ok || v != nil {
		t.Errorf("Get(2): %v, %v", v, ok)
	}
}

// TestR3: trees that come of one tree share nothing that a later call changes: of each of them many come, in turns.
func TestR3(t *testing.T) {
	x, m := numbered(mixed(150, 21)...)
	var trees []btree.Tree[int, string]
	var models []model[int, string]
	for k := range 150 {
		trees = append(trees, x.Without(k), x.With(k, "anew"), x.With(1000+k, "more"))
		models = append(models, m.without(k), m.with(k, "anew"), m.with(1000+k, "more"))
	}
	for n := range trees {
		for k := range 20 {
			trees[n].Without(7*k+3).With(k, "other").With(-k, "other")
		}
	}
	for n := range trees {
		has(t, fmt.Sprint("tree ", n), trees[n], models[n])
	}
	has(t, "the one of which they came", x, m)
}

// TestR4: the same calls lead to trees that answer the same, whatever is done to other trees between.
func TestR4(t *testing.T) {
	var a, b, other btree.Tree[int, int]
	x, y := dice(12345), dice(777)
	for step := range 2000 {
		key, take := x.below(300), x.below(3) == 0
		for _, tree := range []*btree.Tree[int, int]{&a, &b} {
			if take {
				*tree = tree.Without(key)
			} else {
				*tree = tree.With(key, step)
			}
		}
		other = other.With(y.below(300), step).Without(y.below(300))
		if a.Len() != b.Len() || a.Deep() != b.Deep() {
			t.Fatalf("step %d: Len %d and %d, Deep %d and %d", step, a.Len(), b.Len(), a.Deep(), b.Deep())
		}
	}
	if !slices.Equal(told(a.All()), told(b.All())) {
		t.Error("All is not the same")
	}
}
