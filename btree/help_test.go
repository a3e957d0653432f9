package btree_test

import (
	"cmp"
	"fmt"
	"iter"
	"math/bits"
	"slices"
	"testing"

	"quayside/btree"
)

// dice are numbers that look like chance, the same ones in each run.
type dice uint64

func (x *dice) below(n int) int {
	*x ^= *x << 13
	*x ^= *x >> 7
	*x ^= *x << 17
	return int(uint64(*x) >> 1 % uint64(n))
}

type pair[K, V any] struct {
	key K
	val V
}

// model is what a tree has, as a plain list that rises.
type model[K cmp.Ordered, V comparable] []pair[K, V]

func (m model[K, V]) find(key K) (int, bool) {
	for i, p := range m {
		if p.key >= key {
			return i, p.key == key
		}
	}
	return len(m), false
}

func (m model[K, V]) with(key K, v V) model[K, V] {
	i, has := m.find(key)
	m = slices.Clone(m)
	if has {
		m[i].val = v
		return m
	}
	return slices.Insert(m, i, pair[K, V]{key, v})
}

func (m model[K, V]) without(key K) model[K, V] {
	i, has := m.find(key)
	if !has {
		return m
	}
	return slices.Delete(slices.Clone(m), i, i+1)
}

func told[K, V any](seq iter.Seq2[K, V]) []pair[K, V] {
	var out []pair[K, V]
	for k, v := range seq {
		out = append(out, pair[K, V]{k, v})
	}
	return out
}

// sized: Len and Deep are those of a tree of so many keys.
func sized[K cmp.Ordered, V any](t *testing.T, what string, x btree.Tree[K, V], keys int) {
	t.Helper()
	deep := x.Deep()
	if x.Len() != keys || (deep == 0) != (keys == 0) || keys > 0 && deep > 2+bits.Len(uint(keys))-1 {
		t.Fatalf("%s: Len %d, Deep %d, of %d keys", what, x.Len(), deep, keys)
	}
}

// has: the tree has what the model has, looked at in every way.
func has[K cmp.Ordered, V comparable](t *testing.T, what string, x btree.Tree[K, V], m model[K, V]) {
	t.Helper()
	sized(t, what, x, len(m))
	if all := told(x.All()); !slices.Equal(all, m) {
		t.Fatalf("%s: All: %v, want %v", what, all, m)
	}
	for i, p := range m {
		gets(t, what, x, p.key, p.val)
		if i%7 == len(m)%7 {
			fromIs(t, what, x, p.key, m)
		}
	}
}

func gets[K cmp.Ordered, V comparable](t *testing.T, what string, x btree.Tree[K, V], key K, want V) {
	t.Helper()
	if v, ok := x.Get(key); !ok || v != want {
		t.Fatalf("%s: Get(%v): %v, %v, want %v", what, key, v, ok, want)
	}
}

func lacks[K cmp.Ordered, V comparable](t *testing.T, what string, x btree.Tree[K, V], key K) {
	t.Helper()
	var none V
	if v, ok := x.Get(key); ok || v != none {
		t.Fatalf("%s: Get(%v): %v, %v, want nothing", what, key, v, ok)
	}
}

// fromIs: From tells what the model has from the key on.
func fromIs[K cmp.Ordered, V comparable](t *testing.T, what string, x btree.Tree[K, V], key K, m model[K, V]) {
	t.Helper()
	i, _ := m.find(key)
	if got := told(x.From(key)); !slices.Equal(got, m[i:]) {
		t.Fatalf("%s: From(%v): %v, want %v", what, key, got, m[i:])
	}
}

// numbered is the tree and the model of keys that come one by one, each with a text of its own.
func numbered(keys ...int) (btree.Tree[int, string], model[int, string]) {
	var x btree.Tree[int, string]
	var m model[int, string]
	for _, k := range keys {
		x = x.With(k, fmt.Sprint("v", k))
		m = m.with(k, fmt.Sprint("v", k))
	}
	return x, m
}

func rising(n int) []int {
	out := make([]int, n)
	for k := range out {
		out[k] = k
	}
	return out
}

func falling(n int) []int {
	out := rising(n)
	slices.Reverse(out)
	return out
}

// mixed are numbers from 0 on, in an order that looks like chance.
func mixed(n int, seed dice) []int {
	out := rising(n)
	for k := n - 1; k > 0; k-- {
		j := seed.below(k + 1)
		out[k], out[j] = out[j], out[k]
	}
	return out
}
