package hash_test

import (
	"fmt"
	"slices"
	"testing"

	"quayside/api"
	"quayside/hash"
)

// TestExample is the chapter's: With(a, 3), With(a, 1): Find(a): 1, 3.
func TestExample(t *testing.T) {
	var x hash.Index
	if got := x.With(text("a"), 3).With(text("a"), 1).Find(text("a")); !slices.Equal(got, []int{1, 3}) {
		t.Error(got)
	}
}

// TestHa1Empty: what the zero value of an index answers.
func TestHa1Empty(t *testing.T) {
	var x hash.Index
	has(t, "empty", x, model{})
	has(t, "empty, by a literal", hash.Index{}, model{})
	for _, v := range slices.Concat(mayBe(), mayNotBe()) {
		has(t, fmt.Sprint("empty, without ", v), x.Without(v, 0), model{})
		if len(x.Find(v)) != 0 || x.Without(v, 0) != x {
			t.Errorf("the empty one, of %v: %v", v, x.Find(v))
		}
	}
}

// TestHa1With: a number that is new comes to the others, by a value that is new, and by one that has numbers; the index itself stays.
func TestHa1With(t *testing.T) {
	for n := range 70 {
		for _, values := range []int{1, 3, 70} {
			x, m := made(counted(n, values)...)
			for _, p := range []pair{{number(0), -1}, {number(0), 1000}, {number(2), n}, {number(n / 2), n/2 + 1}, {number(999), 0}, {text("0"), 0}, {null, 0}, {truth(0), 0}} {
				what := fmt.Sprint(n, " numbers by ", values, ", with ", p)
				y := x.With(p.v, p.n)
				has(t, what, y, m.with(p.v, p.n))
				has(t, what+", and one more", y.With(p.v, -2), m.with(p.v, p.n).with(p.v, -2))
				has(t, what+", behind that", y, m.with(p.v, p.n))
				has(t, what+", the elder one", x, m)
			}
		}
	}
}

// TestHa1WithAgain: with what is there already, an index is itself.
func TestHa1WithAgain(t *testing.T) {
	for _, n := range []int{1, 2, 31, 32, 33, 64, 65, 128, 200} {
		x, m := made(mixed(counted(n, 40), 99)...)
		for _, p := range m.pairs {
			y := x.With(p.v, p.n)
			has(t, fmt.Sprint(n, " numbers, again with ", p), y, m)
			if y != x {
				t.Fatalf("%d numbers: with %v again it is another one", n, p)
			}
		}
	}
}

// TestHa1WithWrong: with a value that may not be, an index is itself, and nothing is found by that value.
func TestHa1WithWrong(t *testing.T) {
	for _, n := range []int{0, 1, 32, 64, 65} {
		x, m := made(counted(n, 20)...)
		for _, v := range mayNotBe() {
			y := x.With(v, 5)
			has(t, fmt.Sprint(n, " numbers, with ", v), y, m)
			if y != x || y.Without(v, 5) != x || len(y.Find(v)) != 0 {
				t.Fatalf("%d numbers: with %v it is another one", n, v)
			}
		}
	}
}

// TestHa1Without: each number can be taken, with others by its value and as its last one, and comes anew; the index itself stays.
func TestHa1Without(t *testing.T) {
	for _, n := range []int{1, 2, 8, 32, 33, 65, 150} {
		for _, values := range []int{1, 7, 150} {
			x, m := made(mixed(counted(n, values), 77)...)
			for _, p := range m.pairs {
				what := fmt.Sprint(n, " numbers by ", values, ", without ", p)
				y := x.Without(p.v, p.n)
				has(t, what, y, m.without(p.v, p.n))
				has(t, what+" twice", y.Without(p.v, p.n), m.without(p.v, p.n))
				has(t, what+", and with it anew", y.With(p.v, p.n), m)
				has(t, what+", behind that", y, m.without(p.v, p.n))
			}
			has(t, fmt.Sprint(n, " numbers, behind all"), x, m)
		}
	}
}

// TestHa1WithoutNone: without what is not there, an index is itself: another number by a value, a number by another value, a value that may not be.
func TestHa1WithoutNone(t *testing.T) {
	for _, n := range []int{1, 2, 32, 33, 100} {
		x, m := made(counted(n, 20)...)
		for _, p := range []pair{{number(0), -1}, {number(0), 1}, {number(0), 1000}, {number(19), 0}, {number(20), 0}, {text("0"), 0}, {text(""), 0}, {null, 0}, {truth(0), 0}, {truth(1), 1}, {api.Value{Kind: 9}, 0}, {api.Value{Kind: api.Int, S: "0"}, 0}, {api.Value{Kind: api.Text, N: 1}, 1}} {
			y := x.Without(p.v, p.n)
			has(t, fmt.Sprint(n, " numbers, without ", p), y, m)
			if y != x {
				t.Fatalf("%d numbers: without %v it is another one", n, p)
			}
		}
	}
}

// TestHa1Find: the numbers by a value rise, in whatever order they came, from the least to the greatest of all.
func TestHa1Find(t *testing.T) {
	for seed := range 30 {
		var pairs []pair
		for k, v := range mayBe() {
			for _, n := range oddNumbers()[:1+k%len(oddNumbers())] {
				pairs = append(pairs, pair{v, n})
			}
		}
		x, m := made(mixed(pairs, dice(977*seed+5))...)
		has(t, fmt.Sprint("order ", seed), x, m)
		for _, v := range mayBe() {
			if got := x.Find(v); len(got) == 0 || !slices.IsSorted(got) {
				t.Fatalf("order %d: Find(%v): %v", seed, v, got)
			}
		}
	}
}

// TestHa1SameNumber: one number may be by many values, and counts by each.
func TestHa1SameNumber(t *testing.T) {
	var x hash.Index
	var m model
	for k, v := range mayBe() {
		x, m = x.With(v, 7), m.with(v, 7)
		if x.Len() != k+1 {
			t.Fatalf("Len %d of %d", x.Len(), k+1)
		}
	}
	has(t, "7 by all", x, m)
	for _, v := range mayBe() {
		x, m = x.Without(v, 7), m.without(v, 7)
		has(t, fmt.Sprint("7 by all, till ", v), x, m)
	}
}

// TestHa1OneBucket: values of unlike kinds that stand in one bucket have each their own numbers.
func TestHa1OneBucket(t *testing.T) {
	nulls, truths := 0, 0
	for bucket := range 8 {
		values := together(8, bucket, 10)
		var pairs []pair
		for k, v := range values {
			pairs = append(pairs, pair{v, k}, pair{v, -k - 1})
			if v == null {
				nulls++
			}
			if v.Kind == api.Bool {
				truths++
			}
		}
		x, m := made(mixed(pairs, dice(bucket+3))[:30]...)
		if has(t, fmt.Sprint("bucket ", bucket), x, m); x.Buckets() != 8 {
			t.Fatalf("bucket %d: %d buckets", bucket, x.Buckets())
		}
		for _, p := range m.pairs {
			has(t, fmt.Sprint("bucket ", bucket, ", without ", p), x.Without(p.v, p.n), m.without(p.v, p.n))
		}
		for _, p := range pairs {
			x, m = x.With(p.v, p.n), m.with(p.v, p.n)
		}
		has(t, fmt.Sprint("bucket ", bucket, ", with all"), x, m)
	}
	if nulls != 1 || truths != 2 {
		t.Errorf("%d nulls and %d truths stood with others", nulls, truths)
	}
}

// TestHa1OneHash: values of unlike kinds that have one Hash, and so stand together however many buckets there are.
func TestHa1OneHash(t *testing.T) {
	for _, of := range []api.Value{null, truth(0), truth(1), number(0), number(-5), text(""), text("s")} {
		var x hash.Index
		var m model
		values := twins(t, of, 60)
		for k, v := range values {
			x, m = x.With(v, k), m.with(v, k)
			x, m = x.With(v, 1), m.with(v, 1)
			finds(t, "coming", x, v, m.find(v))
			sized(t, "coming", x, m)
		}
		has(t, fmt.Sprint("the Hash of ", of), x, m)
		for k, v := range values {
			x, m = x.Without(v, k), m.without(v, k)
			finds(t, "going", x, v, m.find(v))
			if k%20 == 0 {
				has(t, fmt.Sprint("the Hash of ", of, ", going"), x, m)
			}
		}
		has(t, fmt.Sprint("the Hash of ", of, ", behind"), x, m)
	}
}

// TestHa2Edges writes out where there come to be more buckets.
func TestHa2Edges(t *testing.T) {
	for _, values := range []int{1, 5, 10000} {
		var x hash.Index
		at := 0
		for _, w := range []struct{ numbers, buckets int }{{0, 0}, {1, 8}, {2, 8}, {7, 8}, {8, 8}, {9, 8}, {31, 8}, {32, 8}, {33, 16}, {34, 16}, {63, 16}, {64, 16}, {65, 32}, {66, 32}, {127, 32}, {128, 32}, {129, 64}, {256, 64}, {257, 128}, {4095, 1024}, {4096, 1024}, {4097, 2048}} {
			for at < w.numbers {
				x = x.With(number(at%values), at)
				at++
			}
			if x.Len() != w.numbers || x.Buckets() != w.buckets {
				t.Errorf("%d numbers by %d values: Len %d, Buckets %d, want %d", w.numbers, values, x.Len(), x.Buckets(), w.buckets)
			}
		}
	}
}

// TestHa2Never: an index that never had a number has no buckets, whatever was asked of it.
func TestHa2Never(t *testing.T) {
	var x hash.Index
	for _, v := range mayNotBe() {
		x = x.With(v, 1).Without(v, 1)
		if x.Buckets() != 0 || x.Len() != 0 {
			t.Fatalf("with %v: Len %d, Buckets %d", v, x.Len(), x.Buckets())
		}
	}
	for _, v := range mayBe() {
		x = x.Without(v, 1)
		x.Find(v)
		if x.Buckets() != 0 || x.Len() != 0 {
			t.Fatalf("without %v: Len %d, Buckets %d", v, x.Len(), x.Buckets())
		}
	}
}

// TestHa2Stays: what is taken away leaves the buckets as many as the greatest Len asked for, and they become no more till it is surpassed.
func TestHa2Stays(t *testing.T) {
	for _, n := range []int{1, 8, 32, 33, 64, 65, 128, 129, 300} {
		pairs := counted(n, 50)
		x, m := made(pairs...)
		most := x.Buckets()
		for k, p := range mixed(pairs, 31) {
			x, m = x.Without(p.v, p.n), m.without(p.v, p.n)
			if x.Buckets() != most || x.Len() != n-1-k {
				t.Fatalf("%d numbers, %d taken: Len %d, Buckets %d, want %d", n, k+1, x.Len(), x.Buckets(), most)
			}
		}
		has(t, fmt.Sprint(n, " numbers, all taken"), x, m)
		for k := range n {
			x, m = x.With(text("anew"), k), m.with(text("anew"), k)
			if x.Buckets() != most || x.Len() != k+1 {
				t.Fatalf("%d numbers, %d anew: Len %d, Buckets %d, want %d", n, k+1, x.Len(), x.Buckets(), most)
			}
		}
		x, m = x.With(null, n), m.with(null, n)
		has(t, fmt.Sprint(n, " numbers, and one more"), x, m)
	}
}

// TestHa2Lines: the greatest Len is that of an index's own line: what comes of an elder index beside it does not count.
func TestHa2Lines(t *testing.T) {
	x, m := made(counted(32, 10)...)
	y, n := x, m
	for k := range 100 {
		y, n = y.With(text("y"), k), n.with(text("y"), k)
	}
	z, o := x.Without(number(0), 0), m.without(number(0), 0)
	z, o = z.With(text("z"), 1), o.with(text("z"), 1)
	has(t, "the elder one", x, m)
	has(t, "grown", y, n)
	has(t, "as many as ahead", z, o)
	if x.Buckets() != 8 || y.Buckets() != 64 || z.Buckets() != 8 {
		t.Error(x.Buckets(), y.Buckets(), z.Buckets())
	}
	for k := range 100 {
		y = y.Without(number(k%10), k).Without(text("y"), k)
	}
	if y.Len() != 0 || y.Buckets() != 64 || y.With(null, 1).Buckets() != 64 {
		t.Error(y.Len(), y.Buckets())
	}
}

// TestHa2Refused: what is refused at an edge brings no more buckets.
func TestHa2Refused(t *testing.T) {
	for _, n := range []int{32, 64, 128} {
		x, m := made(counted(n, 10)...)
		x = x.With(api.Value{Kind: 9}, 1).With(number(0), 0).Without(number(0), -1)
		has(t, fmt.Sprint(n, " numbers"), x, m)
		if x.Buckets() != n/4 || x.With(number(0), -1).Buckets() != n/2 {
			t.Errorf("%d numbers: %d buckets", n, x.Buckets())
		}
	}
}

// drawn is a value of which few are alike; some may not be.
func (x *dice) drawn(kinds int) api.Value {
	all := slices.Concat(mayBe(), mayNotBe())
	k := x.below(kinds)
	switch x.below(4) {
	case 0:
		return all[x.below(len(all))]
	case 1:
		return text(fmt.Sprint("t", k))
	}
	return number(k - kinds/2)
}

// TestHa3LongRun: a long run of numbers that come, come again and go, held against a plain list of pairs, with elder indexes looked at again.
func TestHa3LongRun(t *testing.T) {
	type kept struct {
		x    hash.Index
		m    model
		step int
	}
	for seed := range 6 {
		d := dice(88172645463325252 + 977*seed)
		var now kept
		elder := []kept{now}
		for step := range 4000 {
			// Tides, so that indexes grow to some hundred numbers and come back to few.
			v, n, tide := d.drawn(1+30*seed), d.below(12)-6, 1+8*(step/700%2)
			if d.below(10) < tide && len(now.m.pairs) > 0 {
				if d.below(3) > 0 {
					p := now.m.pairs[d.below(len(now.m.pairs))]
					v, n = p.v, p.n
				}
				now = kept{now.x.Without(v, n), now.m.without(v, n), step}
			} else {
				now = kept{now.x.With(v, n), now.m.with(v, n), step}
			}
			finds(t, fmt.Sprint("step ", step), now.x, v, now.m.find(v))
			sized(t, fmt.Sprint("step ", step), now.x, now.m)
			if step%40 == 0 {
				has(t, fmt.Sprint("step ", step), now.x, now.m)
				elder = append(elder, now)
			}
			// An elder index may go on too: the lines part.
			if d.below(200) == 0 {
				now = elder[d.below(len(elder))]
			}
		}
		for _, o := range elder {
			has(t, fmt.Sprint("the index of step ", o.step, " at the end"), o.x, o.m)
		}
	}
}

// TestHa3Whole: as many numbers as a table has rows, by values of their own and by few, come and go in orders of chance.
func TestHa3Whole(t *testing.T) {
	for _, values := range []int{1, 3, api.MaxRows} {
		pairs := counted(api.MaxRows, values)
		var x hash.Index
		for _, p := range mixed(pairs, 71) {
			x = x.With(p.v, p.n)
		}
		full := x
		for k := range values {
			got := full.Find(number(k))
			for i, n := range got {
				if n != k+i*values {
					t.Fatalf("by %d values: Find(%d): %v", values, k, got)
				}
			}
			if len(got) != (api.MaxRows-k+values-1)/values {
				t.Fatalf("by %d values: Find(%d): %d numbers", values, k, len(got))
			}
		}
		for _, p := range mixed(pairs, 72) {
			x = x.Without(p.v, p.n)
		}
		if x.Len() != 0 || x.Buckets() != 1024 || full.Len() != api.MaxRows || full.Buckets() != 1024 {
			t.Errorf("by %d values: Len %d and %d, Buckets %d and %d", values, x.Len(), full.Len(), x.Buckets(), full.Buckets())
		}
	}
}
