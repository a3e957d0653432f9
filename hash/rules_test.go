package hash_test

import (
	"fmt"
	"slices"
	"testing"

	"quayside/api"
	"quayside/hash"
)

// TestR1: every call ends without a panic, at any values and numbers, of an index that has some and of one that has none.
func TestR1(t *testing.T) {
	defer func() {
		if r := recover(); r != nil {
			t.Error("panic:", r)
		}
	}()
	x, _ := made(counted(100, 30)...)
	all := append(slices.Concat(mayBe(), mayNotBe()), api.Value{Kind: api.MinInt, N: api.MinInt, S: string(make([]byte, 1<<16))})
	for _, v := range all {
		for _, n := range oddNumbers() {
			var none hash.Index
			none.Without(v, n).With(v, n).Without(v, n).Without(v, n).Find(v)
			none.Len()
			none.Buckets()
			x = x.With(v, n)
			x.Find(v)
			x.Without(v, n).Find(v)
		}
	}
}

// TestR2: where nothing is by a value no number is told; and a With and a Without that do nothing change nothing that a later call could tell.
func TestR2(t *testing.T) {
	x, m := made(counted(64, 20)...)
	for k, v := range mayNotBe() {
		x = x.With(v, k).Without(v, k).Without(number(0), -k-1).With(number(0), 20).Without(text("0"), 0)
		if got := x.Find(v); len(got) != 0 {
			t.Fatalf("Find(%v): %v", v, got)
		}
	}
	has(t, "behind what does nothing", x, m)
	for k := range 200 {
		x, m = x.With(text("a"), k), m.with(text("a"), k)
	}
	has(t, "behind more", x, m)
	if len(x.Find(text("b"))) != 0 || len(x.Find(null)) != 0 || len(x.Find(number(20))) != 0 {
		t.Error("found where nothing is")
	}
}

// TestR3Answers: what Find answers is new memory: it can be changed, and taken up to its room's end, and nothing else is changed by it.
func TestR3Answers(t *testing.T) {
	x, m := made(mixed(counted(200, 9), 12)...)
	younger, y := x.With(number(1), -5), m.with(number(1), -5)
	for k := range 9 {
		first, second := x.Find(number(k)), x.Find(number(k))
		for i := range first {
			first[i] = -99
		}
		room := first[:cap(first)]
		for i := range room {
			room[i] = -98
		}
		_ = append(first[:1], -97, -96)
		if !slices.Equal(second, m.find(number(k))) {
			t.Fatalf("another answer of %d is %v now", k, second)
		}
	}
	has(t, "behind changed answers", x, m)
	has(t, "the younger one behind changed answers", younger, y)
}

// TestR3Lines: indexes that come of one index share nothing that a later call changes: of each of them many come, in turns.
func TestR3Lines(t *testing.T) {
	x, m := made(mixed(counted(128, 50), 21)...)
	var indexes []hash.Index
	var models []model
	for k := range 50 {
		v := number(k)
		indexes = append(indexes, x.Without(v, k), x.With(v, -1), x.With(v, 60+k), x.With(number(1000+k), k))
		models = append(models, m.without(v, k), m.with(v, -1), m.with(v, 60+k), m.with(number(1000+k), k))
	}
	for n := range indexes {
		for k := range 20 {
			indexes[n].Without(number(k), k).With(number(k), -7).With(number(2000+k), n).With(text("x"), k)
		}
	}
	for n := range indexes {
		has(t, fmt.Sprint("index ", n), indexes[n], models[n])
	}
	has(t, "the one of which they came", x, m)
}

// TestR4: the same calls lead to indexes that answer the same, whatever is done to others between; and so do other orders of what is put, but for the buckets.
func TestR4(t *testing.T) {
	var a, b, other hash.Index
	x, y := dice(12345), dice(777)
	var m model
	for step := range 3000 {
		v, n, take := x.drawn(40), x.below(9), x.below(3) == 0
		for _, one := range []*hash.Index{&a, &b} {
			if take {
				*one = one.Without(v, n)
			} else {
				*one = one.With(v, n)
			}
		}
		if take {
			m = m.without(v, n)
		} else {
			m = m.with(v, n)
		}
		other = other.With(y.drawn(40), step).Without(y.drawn(40), step/2)
		if a.Len() != b.Len() || a.Buckets() != b.Buckets() || !slices.Equal(a.Find(v), b.Find(v)) {
			t.Fatalf("step %d: Len %d and %d, Buckets %d and %d, Find %v and %v", step, a.Len(), b.Len(), a.Buckets(), b.Buckets(), a.Find(v), b.Find(v))
		}
	}
	has(t, "the first", a, m)
	has(t, "the second", b, m)
	for seed := range 10 {
		c, o := made(mixed(m.pairs, dice(seed+1))...)
		has(t, fmt.Sprint("order ", seed), c, o)
		for _, p := range m.pairs {
			finds(t, fmt.Sprint("order ", seed), c, p.v, a.Find(p.v))
		}
	}
}
