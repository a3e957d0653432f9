package cow_test

import (
	"fmt"
	"maps"
	"slices"
	"strings"
	"testing"

	"quayside/api"
	"quayside/cow"
	"quayside/space"
)

// forged is a tree whose pages are written by hand.
type forged struct {
	what string
	want api.Errno // of Check
	lay  func(s *space.Space) int
}

// lays are ways of laying pages by hand.
func lays(t *testing.T, s *space.Space) (leaf, inner func(cells ...string) int, pages func(n int) []int) {
	leaf = func(cells ...string) int { return laid(t, s, 1, cells...) }
	inner = func(cells ...string) int { return laid(t, s, 2, cells...) }
	pages = func(n int) []int {
		var out []int
		for range n {
			n, e := s.Alloc()
			must(t, "Alloc", e, api.OK)
			out = append(out, n)
		}
		return out
	}
	return leaf, inner, pages
}

// right are trees that are as they must be, though Put would not lay them so.
func right(t *testing.T) []forged {
	return []forged{
		{"one leaf", api.OK, func(s *space.Space) int { return laid(t, s, 1, "a", "1", "b", "2") }},
		{"the longest key and value", api.OK, func(s *space.Space) int {
			return laid(t, s, 1, strings.Repeat("k", 64), strings.Repeat("v", 30))
		}},
		{"two leaves", api.OK, func(s *space.Space) int {
			leaf, inner, _ := lays(t, s)
			return inner("a", two(leaf("a", "1", "b", "2")), "c", two(leaf("c", "3")))
		}},
		{"the longest is told of children", api.OK, func(s *space.Space) int {
			leaf, inner, _ := lays(t, s)
			key := strings.Repeat("b", 64)
			return inner("a", two(leaf("a", "1")), key, two(leaf(key, "1")))
		}},
		{"less is told of children", api.OK, func(s *space.Space) int {
			leaf, inner, _ := lays(t, s)
			return inner("\x00", two(leaf("bb", "1", "bc", "2")), "c", two(leaf("cc", "3")), "ccc", two(leaf("f", "4")))
		}},
		{"less is told of the first child than of its page", api.OK, func(s *space.Space) int {
			leaf, inner, _ := lays(t, s)
			one := inner("b", two(leaf("b", "1")), "d", two(leaf("d", "2")))
			other := inner("a", two(leaf("g", "3")), "h", two(leaf("i", "4")))
			return inner("b", two(one), "f", two(other))
		}},
		{"inner pages of one child", api.OK, func(s *space.Space) int {
			leaf, inner, _ := lays(t, s)
			one := inner("a", two(leaf("a", "1", "b", "2", "c", "3")))
			other := inner("g", two(leaf("g", "4", "h", "5", "i", "6")))
			return inner("a", two(one), "g", two(other))
		}},
		{"a root of one child", api.OK, func(s *space.Space) int {
			leaf, inner, _ := lays(t, s)
			return inner("k", two(leaf("k", "1")))
		}},
		{"a great number", api.OK, func(s *space.Space) int {
			leaf, inner, pages := lays(t, s)
			pages(300)
			return inner("a", two(leaf("a", "1")), "b", two(leaf("b", "1")))
		}},
	}
}

// wrongPages are trees of pages that are none of a tree's.
func wrongPages(t *testing.T) []forged {
	alone := func(kind int, cells ...string) func(s *space.Space) int {
		return func(s *space.Space) int { return laid(t, s, kind, cells...) }
	}
	second := func(kind int, cells ...string) func(s *space.Space) int {
		return func(s *space.Space) int {
			leaf, inner, _ := lays(t, s)
			return inner("a", two(leaf("a", "1", "b", "2")), "c", two(laid(t, s, kind, cells...)))
		}
	}
	var out []forged
	for what, lay := range map[string]func(kind int, cells ...string) func(s *space.Space) int{"the root": alone, "a child": second} {
		for _, kind := range []int{3, 4, 128, 255} {
			out = append(out, forged{fmt.Sprintf("%s of the kind %d", what, kind), api.ErrPage, lay(kind, "c", "1")})
		}
		out = append(out,
			forged{what + " is a leaf without keys", api.ErrPage, lay(1)},
			forged{what + " is an inner page without children", api.ErrPage, lay(2)},
			forged{what + " is a leaf with a key of 65 bytes", api.ErrPage, lay(1, strings.Repeat("k", 65), "")},
			forged{what + " is a leaf with a value of 31 bytes", api.ErrPage, lay(1, "c", strings.Repeat("v", 31))},
			forged{what + " is a leaf with a long value behind others", api.ErrPage, lay(1, "c", "1", "d", "2", "e", strings.Repeat("v", 31))},
			forged{what + " is an inner page with a number without bytes", api.ErrPage, lay(2, "c", "")},
			forged{what + " is an inner page with a number of one byte", api.ErrPage, lay(2, "c", "\x01")},
		)
	}
	out = append(out,
		forged{"an inner page that tells a key of 65 bytes", api.ErrPage, func(s *space.Space) int {
			leaf, inner, _ := lays(t, s)
			return inner("a", two(leaf("a", "1")), strings.Repeat("b", 65), two(leaf("c", "1")))
		}},
		forged{"an inner page with a number of three bytes", api.ErrPage, func(s *space.Space) int {
			leaf, inner, _ := lays(t, s)
			return inner("a", two(leaf("a", "1")), "c", two(leaf("c", "1"))+"\x00")
		}},
		forged{"noughts", api.ErrPage, func(s *space.Space) int { _, _, pages := lays(t, s); return pages(1)[0] }},
		forged{"a child of noughts", api.ErrPage, func(s *space.Space) int {
			leaf, inner, pages := lays(t, s)
			return inner("a", two(leaf("a", "1")), "b", two(pages(1)[0]))
		}},
		forged{"a sum that is not right", api.ErrPage, func(s *space.Space) int {
			_, _, pages := lays(t, s)
			text := bytesOf(t, 1, "a", "1")
			must(t, "Write", s.Write(pages(1)[0], text[:255]+"\x02"), api.OK)
			return 1
		}},
	)
	return out
}

// wrongNumbers are trees with numbers of pages that are not in use.
func wrongNumbers(t *testing.T) []forged {
	var out []forged
	for _, n := range []int{0, 400, 499, 500, 501, 512, 1 << 15, 1<<16 - 1} {
		out = append(out,
			forged{fmt.Sprintf("a child %d", n), api.ErrSpace, func(s *space.Space) int { return laid(t, s, 2, "a", two(n)) }},
			forged{fmt.Sprintf("a last child %d", n), api.ErrSpace, func(s *space.Space) int {
				leaf, inner, _ := lays(t, s)
				return inner("a", two(leaf("a", "1")), "b", two(leaf("b", "2")), "c", two(n))
			}},
		)
	}
	return out
}

// wrongOrder are trees whose keys do not rise, or are not where the way to them leads.
func wrongOrder(t *testing.T) []forged {
	pair := func(told, other string, one, behind []string) func(s *space.Space) int {
		return func(s *space.Space) int {
			leaf, inner, _ := lays(t, s)
			return inner(told, two(leaf(one...)), other, two(leaf(behind...)))
		}
	}
	return []forged{
		{"keys that fall", api.ErrPage, pair("a", "c", []string{"c", "1"}, []string{"a", "2"})},
		{"the same key twice", api.ErrPage, pair("a", "b", []string{"a", "1", "b", "2"}, []string{"b", "3"})},
		{"a key behind some of the next leaf", api.ErrPage, pair("a", "c", []string{"a", "1", "d", "2"}, []string{"c", "3", "e", "4"})},
		{"a key that is not less than what is told of the next child", api.ErrPage, pair("a", "b", []string{"a", "1", "c", "2"}, []string{"d", "3"})},
		{"a key that is less than what is told of its child", api.ErrPage, pair("a", "d", []string{"a", "1"}, []string{"c", "2", "e", "3"})},
		{"a key that is less than what is told of the first child", api.ErrPage, pair("b", "d", []string{"a", "1", "b", "2"}, []string{"d", "3"})},
		{"keys that fall between leaves of two inner pages", api.ErrPage, func(s *space.Space) int {
			leaf, inner, _ := lays(t, s)
			one := inner("a", two(leaf("a", "1")), "b", two(leaf("b", "2", "f", "3")))
			other := inner("e", two(leaf("e", "4")), "g", two(leaf("g", "5")))
			return inner("a", two(one), "e", two(other))
		}},
		{"an inner page with keys of the next one", api.ErrPage, func(s *space.Space) int {
			leaf, inner, _ := lays(t, s)
			one := inner("a", two(leaf("a", "1")), "e", two(leaf("e", "2")))
			other := inner("e", two(leaf("e", "4")), "g", two(leaf("g", "5")))
			return inner("a", two(one), "e", two(other))
		}},
		{"an inner page with keys of the one ahead", api.ErrPage, func(s *space.Space) int {
			leaf, inner, _ := lays(t, s)
			one := inner("a", two(leaf("a", "1")), "c", two(leaf("c", "2")))
			other := inner("d", two(leaf("d", "4")), "e", two(leaf("e", "5")))
			return inner("a", two(one), "e", two(other))
		}},
	}
}

// wrongShape are trees whose pages do not stand one below the other as they must.
func wrongShape(t *testing.T) []forged {
	return []forged{
		{"leaves that are not as deep, the second one deeper", api.ErrPage, func(s *space.Space) int {
			leaf, inner, _ := lays(t, s)
			return inner("a", two(leaf("a", "1", "b", "2")), "c", two(inner("c", two(leaf("c", "3")), "d", two(leaf("d", "4")))))
		}},
		{"leaves that are not as deep, the first one deeper", api.ErrPage, func(s *space.Space) int {
			leaf, inner, _ := lays(t, s)
			return inner("a", two(inner("a", two(leaf("a", "3")), "b", two(leaf("b", "4")))), "c", two(leaf("c", "1", "d", "2")))
		}},
		{"a page that is its own child", api.ErrPage, func(s *space.Space) int { return laid(t, s, 2, "a", two(1)) }},
		{"a page that is its own first child", api.ErrPage, func(s *space.Space) int {
			leaf, inner, pages := lays(t, s)
			own := pages(1)[0]
			text := bytesOf(t, 2, "a", two(own), "c", two(leaf("c", "1")))
			must(t, "Write", s.Write(own, text), api.OK)
			return inner("a", two(own), "d", two(leaf("d", "1")))
		}},
		{"a page that is its own last child", api.ErrPage, func(s *space.Space) int {
			leaf, _, pages := lays(t, s)
			own := pages(1)[0]
			must(t, "Write", s.Write(own, bytesOf(t, 2, "a", two(leaf("a", "1")), "c", two(own))), api.OK)
			return own
		}},
		{"pages of one child each, in a ring", api.ErrPage, func(s *space.Space) int {
			_, _, pages := lays(t, s)
			ring := pages(9)
			for k, n := range ring {
				must(t, "Write", s.Write(n, bytesOf(t, 2, "a", two(ring[(k+1)%9]))), api.OK)
			}
			return ring[4]
		}},
		{"one leaf twice", api.ErrPage, func(s *space.Space) int {
			leaf, inner, _ := lays(t, s)
			one := leaf("b", "1", "d", "2")
			return inner("a", two(one), "c", two(one))
		}},
		{"one leaf below two inner pages", api.ErrPage, func(s *space.Space) int {
			leaf, inner, _ := lays(t, s)
			one := leaf("b", "1")
			return inner("a", two(inner("a", two(one))), "b", two(inner("b", two(one))))
		}},
		{"one inner page twice", api.ErrPage, func(s *space.Space) int {
			leaf, inner, _ := lays(t, s)
			one := inner("b", two(leaf("b", "1", "c", "2", "d", "3")))
			return inner("a", two(one), "c", two(one))
		}},
		{"pages that fork without an end", api.ErrPage, func(s *space.Space) int {
			leaf, inner, _ := lays(t, s)
			n := leaf("k", "1")
			for range 400 {
				n = inner("a", two(n), "z", two(n))
			}
			return n
		}},
		{"pages of one child that fork", api.ErrPage, func(s *space.Space) int {
			leaf, inner, _ := lays(t, s)
			n := leaf("k", "1")
			for k := range 400 {
				n = inner(string([]byte{'a' + byte(k%2)}), two(n))
			}
			return inner("a", two(n), "c", two(n))
		}},
		{"three pages with one key", api.ErrPage, func(s *space.Space) int {
			leaf, inner, _ := lays(t, s)
			return inner("a", two(inner("a", two(leaf("a", "1")))))
		}},
		{"five pages with two keys", api.ErrPage, func(s *space.Space) int {
			leaf, inner, _ := lays(t, s)
			return inner("a", two(inner("a", two(leaf("a", "1")))), "b", two(inner("b", two(leaf("b", "1")))))
		}},
	}
}

func wrong(t *testing.T) []forged {
	return slices.Concat(wrongPages(t), wrongNumbers(t), wrongOrder(t), wrongShape(t))
}

// TestCw1Check: of trees that are as they must be it is OK, of others it is not.
func TestCw1Check(t *testing.T) {
	for _, f := range slices.Concat(right(t), wrong(t)) {
		_, s := spaceOf(t, 500)
		x := of(t, s, f.lay(s))
		used := s.Used()
		for range 2 {
			if e := x.Check(); e != f.want {
				t.Errorf("%s: Check: error %d, want %d", f.what, e, f.want)
			}
		}
		if s.Used() != used {
			t.Errorf("%s: %d pages in use, want %d", f.what, s.Used(), used)
		}
		if commits(t, s); x.Check() != f.want {
			t.Errorf("%s, committed: Check: error %d, want %d", f.what, x.Check(), f.want)
		}
	}
}

// modelOf is what a tree that is as it must be has, read without layer 14.
func modelOf(t *testing.T, s *space.Space, x *cow.Tree) model {
	t.Helper()
	m := model{}
	for _, key := range formOf(t, "by hand", s, x.Root()).keys {
		value, e := x.Get(key)
		must(t, fmt.Sprintf("Get(%q)", key), e, api.OK)
		m[key] = value
	}
	return m
}

// TestCw1CheckedGoOn: a tree that is as it must be can be asked and changed, whoever laid it, and stays so.
func TestCw1CheckedGoOn(t *testing.T) {
	t.Parallel()
	keys := []string{"\x00", "A", "a", "aa", "b", "bb", "bc", "c", "cc", "ccc", "d", "e", "f", "g", "h", "i", "k", "kk", "z", strings.Repeat("a", 64), strings.Repeat("d", 64), strings.Repeat("g", 64), strings.Repeat("k", 64), strings.Repeat("\xff", 64)}
	for _, f := range right(t) {
		for seed := range 30 {
			_, s := spaceOf(t, 500)
			x := of(t, s, f.lay(s))
			m := modelOf(t, s, x)
			holds(t, f.what, s, x, m)
			pages, _ := x.Pages()
			others := s.Used() - len(pages)
			r := dice(99 + 7*seed)
			for k := range 60 {
				if key := pick(&r, keys...); r.below(3) > 0 {
					puts(t, x, m, k, key)
				} else if _, has := m[key]; has {
					drops(t, x, m, key)
				}
				if k == 20 && seed%2 == 0 {
					commits(t, s)
				}
				holds(t, fmt.Sprintf("%s, run %d, step %d", f.what, seed, k), s, x, m)
			}
			drops(t, x, m, m.keys()...)
			if x.Root() != 0 || s.Used() != others {
				t.Fatalf("%s: the root %d, %d pages in use, want %d", f.what, x.Root(), s.Used(), others)
			}
		}
	}
}

// TestCw1Pages: all pages of the tree, rising, just those in use, at most two for each key.
func TestCw1Pages(t *testing.T) {
	for what, keys := range sets() {
		s, x, m := treeOf(t)
		pagesAre(t, what+", empty", x)
		for k, key := range mixed(dice(6), keys) {
			puts(t, x, m, 0, key)
			pages, e := x.Pages()
			must(t, "Pages", e, api.OK)
			if !slices.IsSorted(pages) || !slices.Equal(pages, inUse(s)) || len(pages) > 2*(k+1) || !slices.Contains(pages, x.Root()) {
				t.Fatalf("%s, %d keys: %d, in use %d, the root %d", what, k+1, pages, inUse(s), x.Root())
			}
		}
		must(t, "Check", x.Check(), api.OK)
		commits(t, s)
		for _, key := range mixed(dice(7), keys)[:len(keys)/2] {
			drops(t, x, m, key)
			pagesAre(t, what+", dropped", x, inUse(s)...)
		}
		alone(t, what, s, x, m)
	}
}

// TestCw2PagesFull: keys that come rising leave full leaves behind them; those that come falling behind full ones do not have a leaf for each.
func TestCw2PagesFull(t *testing.T) {
	for what, keys := range sets() {
		s, x, m := treeOf(t, keys...)
		f := formOf(t, what, s, x.Root())
		leaf, room := 0, 0
		for _, key := range f.keys {
			size := 2 + len(key) + len(m[key])
			if at := leafOf(t, s, x.Root(), key); at != leaf {
				if leaf != 0 && room >= size {
					t.Fatalf("%s: %d bytes of the page %d are left, and %q is in another one", what, room, leaf, key)
				}
				leaf, room = at, 248
			}
			room -= size
		}
	}
	keys := numbered(100, 10)
	for rising := range 34 {
		_, x, _ := treeOf(t)
		for _, key := range append(keys[:rising:rising], falling(keys[rising:])...) {
			must(t, "Put", x.Put(key, "ten  bytes"), api.OK)
		}
		if pages, _ := x.Pages(); len(pages) > 25 {
			t.Errorf("%d rising, the others falling: %d pages with 100 keys", rising, len(pages))
		}
	}
}

// TestCw2PagesFew: at most two pages for each key, also where just those keys stay that have a leaf for themselves.
func TestCw2PagesFew(t *testing.T) {
	t.Parallel()
	for what, keys := range sets() {
		for came, coming := range orders(keys) {
			s, x, m := treeOf(t, coming...)
			first := map[int]string{}
			for key := range x.From("") {
				leaf := leafOf(t, s, x.Root(), key)
				if _, has := first[leaf]; !has {
					first[leaf] = key
				}
			}
			stay := slices.Collect(maps.Values(first))
			for _, key := range mixed(dice(70), keys) {
				if !slices.Contains(stay, key) {
					drops(t, x, m, key)
				}
			}
			alone(t, what+", came "+came+", few are left", s, x, m)
			for k, key := range mixed(dice(71), stay) {
				drops(t, x, m, key)
				if k%11 == 0 {
					alone(t, what+", came "+came+", fewer are left", s, x, m)
				}
			}
			alone(t, what+", came "+came+", none is left", s, x, model{})
		}
	}
}
