package cow_test

import (
	"fmt"
	"slices"
	"strings"
	"testing"

	"quayside/api"
	"quayside/cow"
	"quayside/space"
)

// TestCw1DropOrders: keys that go in each order, of trees to which they came in each order, down to none: behind each the key is not there, and the others are; of none there is no page.
func TestCw1DropOrders(t *testing.T) {
	t.Parallel()
	for what, keys := range sets() {
		for came, coming := range orders(keys) {
			for went, going := range orders(keys) {
				s, x, m := treeOf(t, coming...)
				for k, key := range going {
					drops(t, x, m, key)
					refusesGet(t, what, x, key, api.ErrNone)
					if k%80 == 0 {
						alone(t, fmt.Sprintf("%s, came %s, went %s, %d keys left", what, came, went, len(m)), s, x, m)
					}
				}
				alone(t, "none left", s, x, model{})
				if x.Root() != 0 || s.Used() != 0 {
					t.Fatalf("%s, came %s, went %s: the root %d, %d pages in use", what, came, went, x.Root(), s.Used())
				}
			}
		}
	}
}

// TestCw1DropNone: of keys that are not there, also of such as can not be: ErrNone, and nothing is changed.
func TestCw1DropNone(t *testing.T) {
	for _, keys := range [][]string{nil, {"m"}, unlike(150)} {
		s, x, m := treeOf(t, keys...)
		root, used := x.Root(), s.Used()
		for _, key := range []string{"", "\x00", "A", "Aa\x00", "a", "ma", "zzzz", "\xff", strings.Repeat("k", 64), strings.Repeat("k", 65), strings.Repeat("A", 1000)} {
			if _, has := m[key]; has {
				continue
			}
			must(t, fmt.Sprintf("Drop(%q)", key), x.Drop(key), api.ErrNone)
			refusesGet(t, "none", x, key, api.ErrNone)
		}
		if x.Root() != root || s.Used() != used {
			t.Errorf("the root %d, want %d; %d pages in use, want %d", x.Root(), root, s.Used(), used)
		}
		alone(t, "as it was", s, x, m)
	}
}

// TestCw1DropTwice: a key that was dropped is not there to drop again, and can be put again.
func TestCw1DropTwice(t *testing.T) {
	s, x, m := treeOf(t, unlike(100)...)
	for _, key := range mixed(dice(8), unlike(100)) {
		drops(t, x, m, key)
		must(t, "Drop again", x.Drop(key), api.ErrNone)
		puts(t, x, m, 5, key)
		gets(t, "put again", x, key, m[key])
	}
	alone(t, "all put again", s, x, m)
}

// TestCw1DropCommitted: from a tree that was committed each key can go, and the others stay.
func TestCw1DropCommitted(t *testing.T) {
	t.Parallel()
	for what, keys := range sets() {
		s, x, m := treeOf(t, mixed(dice(21), keys)...)
		commits(t, s)
		root := x.Root()
		for k, key := range keys {
			if k%7 != 0 && k != len(keys)-1 {
				continue
			}
			value := m[key]
			drops(t, x, m, key)
			alone(t, fmt.Sprintf("%s, without %q", what, key), s, x, m)
			must(t, "Rollback", s.Rollback(), api.OK)
			x, m[key] = of(t, s, root), value
			alone(t, what+", rolled back", s, x, m)
		}
	}
}

// deepTo is how many pages there are on the way to a leaf.
func deepTo(t *testing.T, s *space.Space, x *cow.Tree) int {
	t.Helper()
	return formOf(t, "deep", s, x.Root()).deep
}

// TestCw1DropNeeds: where all keys have one length Drop takes no more pages than there are on the way to the key, whatever goes with it; with so many left it is not refused.
func TestCw1DropNeeds(t *testing.T) {
	t.Parallel()
	took := map[int]int{}
	for what, keys := range map[string][]string{"of 5": numbered(200, 5), "of 30": numbered(110, 30), "of 64": numbered(70, 64)} {
		for came, coming := range orders(keys) {
			x := dice(5)
			_, s := spaceOf(t, 160)
			tree, m := of(t, s, 0), model{}
			puts(t, tree, m, 0, coming...)
			for len(m) > 0 {
				commits(t, s)
				left := m.keys()
				from := x.below(len(left))
				for _, key := range left[from:min(from+4, len(left))] {
					deep := deepTo(t, s, tree)
					taken := fill(t, s)
					for _, n := range taken[:min(deep, len(taken))] {
						must(t, "Release", s.Release(n), api.OK)
					}
					used := s.Used()
					must(t, fmt.Sprintf("%s, came %s, %d keys, %d pages left: Drop(%q)", what, came, len(m), deep, key), tree.Drop(key), api.OK)
					delete(m, key)
					took[deep-(used-s.Used())]++
					for _, n := range taken[min(deep, len(taken)):] {
						must(t, "Release", s.Release(n), api.OK)
					}
				}
				holds(t, what, s, tree, m)
			}
		}
	}
	if len(took) < 3 {
		t.Errorf("the ways of dropping: %v", took)
	}
}

// TestCw1DropParts: two pages that are evened out lead to a longer key in the page above them, which has no room for it, and comes to be two.
func TestCw1DropParts(t *testing.T) {
	long := func(letter string, n int) string { return strings.Repeat(letter, n) }
	for key, below := range map[string][][]string{
		"a": {{"a", "b"}, {"c", long("d", 64), long("e", 64), long("f", 64), long("g", 31)}, {long("h", 60), "hz"}, {long("i", 60), "iz"}, {long("j", 60), "jz"}},
		"z": {{long("h", 60), "hz"}, {long("i", 60), "iz"}, {long("j", 60), "jz"}, {"k", long("l", 64), long("m", 64), long("n", 31), long("o", 64)}, {"y", "z"}},
	} {
		_, s := spaceOf(t, 60)
		var root []string
		for _, keys := range below {
			var cells []string
			for _, key := range keys {
				cells = append(cells, key, two(laid(t, s, 1, key, "v")))
			}
			root = append(root, keys[0], two(laid(t, s, 2, cells...)))
		}
		x := of(t, s, laid(t, s, 2, root...))
		m := modelOf(t, s, x)
		alone(t, "laid by hand", s, x, m)
		drops(t, x, m, key)
		alone(t, "without "+key, s, x, m)
		if deep := deepTo(t, s, x); deep != 4 {
			t.Errorf("without %s: %d pages one below the other", key, deep)
		}
		drops(t, x, m, m.keys()...)
		alone(t, "without all", s, x, model{})
	}
}

// TestCw1DropFull: where there are not enough pages it is refused by ErrFull, and, since the chapter does not say otherwise of Drop, nothing is changed.
func TestCw1DropFull(t *testing.T) {
	t.Parallel()
	for _, keys := range [][]string{{"a", "b"}, unlike(120), numbered(60, 64)} {
		s, x, m := treeOf(t, keys...)
		commits(t, s)
		root, refused := x.Root(), 0
		for _, left := range []int{0, 1, 2, 3, 4} {
			for _, key := range mixed(dice(13), keys)[:min(len(keys), 30)] {
				taken := fill(t, s)
				for _, n := range taken[:left] {
					must(t, "Release", s.Release(n), api.OK)
				}
				if e := x.Drop(key); e != api.OK {
					must(t, fmt.Sprintf("%d pages left: Drop(%q)", left, key), e, api.ErrFull)
					refused++
					holds(t, "refused", s, x, m)
					if x.Root() != root || s.Used() != 500-left {
						t.Fatalf("refused: the root %d, want %d; %d pages in use, want %d", x.Root(), root, s.Used(), 500-left)
					}
				} else if left == 0 {
					t.Fatalf("Drop(%q) without a page", key)
				}
				must(t, "Rollback", s.Rollback(), api.OK)
				x = of(t, s, root)
			}
		}
		if refused == 0 {
			t.Error("none was refused")
		}
	}
}

// TestCw1Get: of each key its value, of those between none.
func TestCw1Get(t *testing.T) {
	for what, keys := range sets() {
		s, x, m := treeOf(t, mixed(dice(34), keys)...)
		commits(t, s)
		for _, key := range keys {
			gets(t, what, x, key, m[key])
			for _, other := range []string{key + "\x00", key[:len(key)-1], key + key} {
				if value, has := m[other]; has {
					gets(t, what, x, other, value)
				} else {
					refusesGet(t, what, x, other, api.ErrNone)
				}
			}
		}
	}
}

// TestCw1GetEmptyValue: a value without bytes is told from none.
func TestCw1GetEmptyValue(t *testing.T) {
	_, x, _ := treeOf(t)
	must(t, "Put", x.Put("k", ""), api.OK)
	gets(t, "no bytes", x, "k", "")
	refusesGet(t, "none", x, "l", api.ErrNone)
}

// TestCw1From: from each key, from between, from below and from above all.
func TestCw1From(t *testing.T) {
	for what, keys := range sets() {
		s, x, m := treeOf(t, mixed(dice(55), keys)...)
		drops(t, x, m, keys[len(keys)/3:len(keys)/2]...)
		commits(t, s)
		for k, key := range keys {
			if k%3 == 0 || k > len(keys)-3 {
				fromIs(t, what, x, m, key)
				fromIs(t, what, x, m, key+"\x00")
				fromIs(t, what, x, m, key[:len(key)-1])
			}
		}
		for _, key := range []string{"", "\x00", "\xff", strings.Repeat("\xff", 64), strings.Repeat("\xff", 100), strings.Repeat("A", 100), strings.Repeat("0", 65)} {
			fromIs(t, what, x, m, key)
		}
	}
}

// TestCw1FromBroken: whoever goes over keys may break off at each of them, and is told no more; an iterator can be gone over again, and two at once.
func TestCw1FromBroken(t *testing.T) {
	keys := unlike(120)
	_, x, m := treeOf(t, mixed(dice(2), keys)...)
	for stop := range keys {
		n := 0
		for key := range x.From("") {
			if key != keys[n] {
				t.Fatalf("%q, want %q", key, keys[n])
			}
			if n++; n > stop {
				break
			}
		}
		n = 0
		x.From(keys[stop])(func(key, _ string) bool {
			if n == 3 || key != keys[stop+n] {
				t.Fatalf("From(%q): %q, number %d", keys[stop], key, n)
			}
			n++
			return n < 3
		})
		if n != min(3, len(keys)-stop) {
			t.Fatalf("From(%q): %d told", keys[stop], n)
		}
	}
	all := x.From("")
	for range 2 {
		if !slices.Equal(told(t, "again", all, m), keys) {
			t.Error("gone over again, not the same")
		}
	}
	n := 0
	for key := range all {
		for other := range all {
			if other >= key {
				break
			}
			n++
		}
	}
	if n != 120*119/2 {
		t.Errorf("two at once: %d", n)
	}
}

// TestCw1FromChanged: while keys are gone over the tree may be changed: all keys that stay are told, rising, each once.
func TestCw1FromChanged(t *testing.T) {
	for what, change := range map[string]func(x *cow.Tree, m model, key string){
		"dropped":   func(x *cow.Tree, m model, key string) { drops(t, x, m, key) },
		"put anew":  func(x *cow.Tree, m model, key string) { puts(t, x, m, 9, key) },
		"put ahead": func(x *cow.Tree, m model, key string) { puts(t, x, m, 9, key[:len(key)-1]+"\x00") },
	} {
		for _, keys := range [][]string{unlike(150), numbered(60, 64)} {
			s, x, m := treeOf(t, keys...)
			commits(t, s)
			var all []string
			for key := range x.From("") {
				if !strings.HasSuffix(key, "\x00") {
					all = append(all, key)
				}
				change(x, m, key)
			}
			if !slices.Equal(all, keys) {
				t.Errorf("%s: told %q, want %q", what, all, keys)
			}
			alone(t, what, s, x, m)
		}
	}
}

// TestCw1Clear: no page is left in use, of trees that were committed and that were not; keys can be put again; the space can be rolled back.
func TestCw1Clear(t *testing.T) {
	for what, keys := range sets() {
		s, x, m := treeOf(t, keys...)
		must(t, "Clear", x.Clear(), api.OK)
		alone(t, what+", cleared", s, x, model{})
		if x.Root() != 0 || s.Used() != 0 {
			t.Errorf("%s: the root %d, %d pages in use", what, x.Root(), s.Used())
		}
		must(t, "Clear again", x.Clear(), api.OK)
		puts(t, x, m, 0, keys...)
		alone(t, what+", put again", s, x, m)
		commits(t, s)
		root := x.Root()
		must(t, "Clear", x.Clear(), api.OK)
		alone(t, what+", committed and cleared", s, x, model{})
		puts(t, x, model{}, 0, "other")
		must(t, "Rollback", s.Rollback(), api.OK)
		alone(t, what+", rolled back", s, of(t, s, root), m)
	}
}
