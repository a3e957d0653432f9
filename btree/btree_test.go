package btree_test

import (
	"fmt"
	"math"
	"slices"
	"strings"
	"testing"

	"quayside/btree"
)

// TestExample is the chapter's: With(2, a), With(1, b): All tells 1 b, 2 a.
func TestExample(t *testing.T) {
	var x btree.Tree[int, string]
	x = x.With(2, "a").With(1, "b")
	if all := told(x.All()); !slices.Equal(all, []pair[int, string]{{1, "b"}, {2, "a"}}) {
		t.Error(all)
	}
}

// TestBt1With: a new key comes to the others, a key that is there has the new value in place of its old one; the tree itself stays.
func TestBt1With(t *testing.T) {
	for n := range 70 {
		for _, key := range []int{-1, 0, n / 2, n - 1, n, n + 5} {
			x, m := numbered(rising(n)...)
			y := x.With(key, "new")
			has(t, fmt.Sprint(n, " keys, with ", key), y, m.with(key, "new"))
			has(t, fmt.Sprint(n, " keys, behind with ", key), x, m)
			has(t, fmt.Sprint(n, " keys, with twice ", key), y.With(key, "newer"), m.with(key, "newer"))
			has(t, fmt.Sprint(n, " keys, with once ", key), y, m.with(key, "new"))
		}
	}
}

// TestBt1WithEvery: every key of a tree of some nodes is put anew, and every one between two.
func TestBt1WithEvery(t *testing.T) {
	var x btree.Tree[int, string]
	var m model[int, string]
	for _, k := range mixed(300, 11) {
		x, m = x.With(2*k, "old"), m.with(2*k, "old")
	}
	for key := -1; key <= 600; key++ {
		has(t, fmt.Sprint("with ", key), x.With(key, "new"), m.with(key, "new"))
	}
	has(t, "behind all", x, m)
}

// TestBt1Without: every key of a tree can be taken; one that is not there takes nothing; the tree itself stays.
func TestBt1Without(t *testing.T) {
	for _, n := range []int{0, 1, 2, 3, 12, 13, 14, 40, 300} {
		var x btree.Tree[int, string]
		var m model[int, string]
		for _, k := range mixed(n, 77) {
			x, m = x.With(2*k, "v"), m.with(2*k, "v")
		}
		for key := -1; key <= 2*n; key++ {
			y := x.Without(key)
			has(t, fmt.Sprint(n, " keys, without ", key), y, m.without(key))
			lacks(t, fmt.Sprint(n, " keys, without ", key), y, key)
			has(t, fmt.Sprint(n, " keys, without twice ", key), y.Without(key), m.without(key))
		}
		has(t, fmt.Sprint(n, " keys, behind all"), x, m)
	}
}

// TestBt1Last: without its last key a tree is empty, as one that never had any, and takes keys anew.
func TestBt1Last(t *testing.T) {
	var none btree.Tree[int, string]
	x := none.With(5, "a").Without(5)
	has(t, "without its last key", x, nil)
	has(t, "the empty one without a key", none.Without(5), nil)
	has(t, "with a key anew", x.With(5, "b"), model[int, string]{{5, "b"}})
	if x != none || none.Without(5) != none {
		t.Error("the tree without its last key is not the empty one")
	}
}

// TestBt2Empty: what the zero value of a tree answers.
func TestBt2Empty(t *testing.T) {
	var x btree.Tree[string, int]
	has(t, "empty", x, nil)
	for _, key := range []string{"", "a"} {
		lacks(t, "empty", x, key)
		fromIs(t, "empty", x, key, nil)
	}
	has(t, "empty, by a literal", btree.Tree[string, int]{}, nil)
	if x.Len() != 0 || x.Deep() != 0 {
		t.Error(x.Len(), x.Deep())
	}
}

// TestBt2One: of one key.
func TestBt2One(t *testing.T) {
	x, m := numbered(5)
	has(t, "one", x, m)
	for _, key := range []int{math.MinInt, 4, 5, 6, math.MaxInt} {
		fromIs(t, "one", x, key, m)
		if key != 5 {
			lacks(t, "one", x, key)
		}
	}
	if x.Len() != 1 || x.Deep() != 1 {
		t.Error(x.Len(), x.Deep())
	}
}

// TestBt2From: from a key that is there, between two, below the least and above the greatest.
func TestBt2From(t *testing.T) {
	for n := range 60 {
		var x btree.Tree[int, string]
		var m model[int, string]
		for _, k := range mixed(n, 5) {
			x, m = x.With(10*k, fmt.Sprint(k)), m.with(10*k, fmt.Sprint(k))
		}
		for key := -5; key <= 10*n+5; key += 5 {
			fromIs(t, fmt.Sprint(n, " keys"), x, key, m)
		}
		fromIs(t, fmt.Sprint(n, " keys"), x, math.MinInt, m)
		fromIs(t, fmt.Sprint(n, " keys"), x, math.MaxInt, m)
	}
}

// TestBt2LetGo: whoever goes over keys may let go at each of them, and is told no more; an iterator can be gone over again, and two at once.
func TestBt2LetGo(t *testing.T) {
	x, _ := numbered(mixed(200, 3)...)
	for stop := range 200 {
		n := 0
		for k := range x.All() {
			if k != n {
				t.Fatalf("All: %d, want %d", k, n)
			}
			if n++; n > stop {
				break
			}
		}
		n = 0
		x.From(stop)(func(k int, _ string) bool {
			if k != stop+n {
				t.Fatalf("From(%d): %d, want %d", stop, k, stop+n)
			}
			n++
			return n < 3
		})
		if want := min(3, 200-stop); n != want {
			t.Fatalf("From(%d): %d told, want %d", stop, n, want)
		}
	}
	all, from := x.All(), x.From(190)
	for range 2 {
		if len(told(all)) != 200 || len(told(from)) != 10 {
			t.Error("gone over again, not the same")
		}
	}
	n := 0
	for k := range from {
		for l := range from {
			if l >= k {
				break
			}
			n++
		}
	}
	if n != 45 {
		t.Errorf("two at once: %d, want 45", n)
	}
}

// TestBt2Stays: what is gone over is the tree as it was when All and From were called, whatever becomes of it then.
func TestBt2Stays(t *testing.T) {
	x, m := numbered(mixed(100, 9)...)
	all, from := x.All(), x.From(50)
	for k := range all {
		x = x.Without(k).With(k+1000, "new")
	}
	has(t, "behind", x, m.shifted(1000, "new"))
	if !slices.Equal(told(all), m) || !slices.Equal(told(from), m[50:]) {
		t.Error("All or From is not as it was")
	}
}

func (m model[K, V]) shifted(by K, v V) model[K, V] {
	var out model[K, V]
	for _, p := range m {
		out = append(out, pair[K, V]{p.key + by, v})
	}
	return out
}

// TestBt2Deep: Len counts, and Deep keeps its bound, while keys come and go in every order, till none is left.
func TestBt2Deep(t *testing.T) {
	const n = 3000
	orders := [][]int{rising(n), falling(n), mixed(n, 42), mixed(n, 43)}
	for c, coming := range orders {
		var full btree.Tree[int, int]
		for i, k := range coming {
			full = full.With(k, i)
			sized(t, fmt.Sprint("coming ", c), full, i+1)
		}
		for g, going := range orders {
			x := full
			for i, k := range going {
				x = x.Without(k)
				sized(t, fmt.Sprint("coming ", c, ", going ", g), x, n-1-i)
			}
		}
		sized(t, fmt.Sprint("coming ", c, ", behind all"), full, n)
	}
}

// TestBt2Zero: a value that is there and is zero is told from one that is not there.
func TestBt2Zero(t *testing.T) {
	var x btree.Tree[string, []int]
	x = x.With("", nil)
	if v, ok := x.Get(""); v != nil || !ok {
		t.Error(v, ok)
	}
	if v, ok := x.Get("a"); v != nil || ok {
		t.Error(v, ok)
	}
}

// TestBt3Kinds: keys of other kinds, by the order of their kind.
func TestBt3Kinds(t *testing.T) {
	var texts btree.Tree[string, int]
	var want model[string, int]
	for n := range 400 {
		s := strings.Repeat(string(rune('a'+n*7%26)), n%5) + string([]byte{byte(n * 11)})
		texts, want = texts.With(s, n), want.with(s, n)
	}
	has(t, "texts", texts, want)
	fromIs(t, "texts", texts, "", want)
	fromIs(t, "texts", texts, "m\xff", want)
	fromIs(t, "texts", texts, "\xff\xff", want)

	var bytes btree.Tree[uint8, int]
	var all model[uint8, int]
	for n := range 600 {
		bytes, all = bytes.With(uint8(n*5), n), all.with(uint8(n*5), n)
	}
	has(t, "bytes", bytes, all)

	var floats btree.Tree[float64, string]
	floats = floats.With(math.Inf(1), "c").With(-1.5, "b").With(math.Inf(-1), "a")
	has(t, "floats", floats, model[float64, string]{{math.Inf(-1), "a"}, {-1.5, "b"}, {math.Inf(1), "c"}})

	type name string
	var named btree.Tree[name, bool]
	has(t, "a type of its own", named.With("b", true).With("a", false), model[name, bool]{{"a", false}, {"b", true}})

	x := btree.Tree[int, int]{}.With(math.MaxInt, 1).With(math.MinInt, 2).With(0, 3)
	has(t, "the ends of numbers", x, model[int, int]{{math.MinInt, 2}, {0, 3}, {math.MaxInt, 1}})
}

// TestBt3LongRun: a long run of keys that come, come anew and go, held against a plain list, with elder trees looked at again.
func TestBt3LongRun(t *testing.T) {
	type kept struct {
		x    btree.Tree[int, int]
		m    model[int, int]
		step int
	}
	for seed := range 6 {
		d := dice(88172645463325252 + 977*seed)
		var now kept
		var elder []kept
		for step := range 4000 {
			// Tides, so that trees grow to some hundred keys and come back to none.
			key, grow := d.below(150*(seed+1)), 1+8*(step/700%2)
			if d.below(10) >= grow {
				now = kept{now.x.With(key, step), now.m.with(key, step), step}
				gets(t, "put", now.x, key, step)
			} else {
				now = kept{now.x.Without(key), now.m.without(key), step}
				lacks(t, "taken", now.x, key)
			}
			sized(t, fmt.Sprint("step ", step), now.x, len(now.m))
			fromIs(t, fmt.Sprint("step ", step), now.x, key, now.m)
			if step%40 == 0 {
				has(t, fmt.Sprint("step ", step), now.x, now.m)
				elder = append(elder, now)
			}
			// An elder tree may go on too: the trees of one root part.
			if d.below(200) == 0 {
				now = elder[d.below(len(elder))]
			}
		}
		for _, o := range elder {
			has(t, fmt.Sprint("the tree of step ", o.step, " at the end"), o.x, o.m)
		}
	}
}
