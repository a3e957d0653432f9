package cow_test

import (
	"fmt"
	"strings"
	"testing"

	"quayside/api"
	"quayside/cow"
	"quayside/space"
)

// TestExample is the chapter's: Put b 2, Put a 1: From("") tells a 1, b 2.
func TestExample(t *testing.T) {
	_, s := spaceOf(t, 7)
	x := of(t, s, 0)
	must(t, "Put", x.Put("b", "2"), api.OK)
	must(t, "Put", x.Put("a", "1"), api.OK)
	var all []string
	for key, value := range x.From("") {
		all = append(all, key+" "+value)
	}
	if strings.Join(all, ", ") != "a 1, b 2" {
		t.Errorf("%q", all)
	}
}

// TestCw1Of: of what is no space, and of a root below nought, there is no tree.
func TestCw1Of(t *testing.T) {
	_, s := spaceOf(t, 7)
	for _, x := range []struct {
		what string
		s    *space.Space
		root int
	}{
		{"nil", nil, 0}, {"nil", nil, 1}, {"nil", nil, -1}, {"a space that was not given", new(space.Space), 0}, {"a space that was not given", &space.Space{}, 3},
		{"a root below nought", s, -1}, {"a root below nought", s, -500}, {"a root below nought", s, api.MinInt}, {"nothing at all", new(space.Space), api.MinInt},
	} {
		if tree, e := cow.Of(x.s, x.root); tree != nil || e != api.ErrArg {
			t.Errorf("%s: Of(%d): %v, error %d", x.what, x.root, tree, e)
		}
	}
	if s.Used() != 0 {
		t.Errorf("Used %d", s.Used())
	}
}

// TestCw1OfEmpty: the tree of the root 0 is empty, and has no page.
func TestCw1OfEmpty(t *testing.T) {
	_, s := spaceOf(t, 1)
	x := of(t, s, 0)
	alone(t, "empty", s, x, model{})
	for _, key := range []string{"", "a", strings.Repeat("k", 65)} {
		refusesGet(t, "empty", x, key, api.ErrNone)
		must(t, "Drop", x.Drop(key), api.ErrNone)
		fromIs(t, "empty", x, model{}, key)
	}
	must(t, "Clear", x.Clear(), api.OK)
	alone(t, "cleared", s, x, model{})
}

// TestCw1OfRoot: the tree of a root that was committed, and of one that was not, is what was put there; what was done to one tree of a root the next one has.
func TestCw1OfRoot(t *testing.T) {
	d, s := spaceOf(t, 60)
	x, m := of(t, s, 0), model{}
	puts(t, x, m, 0, unlike(40)...)
	alone(t, "not committed", s, of(t, s, x.Root()), m)
	must(t, "Name", s.Name("root", x.Root()), api.OK)
	commits(t, s)
	alone(t, "committed", s, of(t, s, x.Root()), m)
	s = opened(t, d)
	root, _ := s.Named("root")
	alone(t, "opened", s, of(t, s, root), m)
	y := of(t, s, root)
	puts(t, y, m, 1, unlike(60)...)
	alone(t, "of another root", s, of(t, s, y.Root()), m)
}

// TestCw1OfAny: of a root that is no page in use there is a tree, which answers ErrSpace.
func TestCw1OfAny(t *testing.T) {
	_, s := spaceOf(t, 7)
	laid(t, s, 1, "a", "1")
	for _, root := range []int{2, 7, 8, 500, 501, 1 << 32, 1<<32 + 1, api.MaxInt} {
		for _, c := range calls() {
			must(t, fmt.Sprintf("%s of the root %d", c.name, root), c.do(of(t, s, root), "a"), api.ErrSpace)
		}
		fromIs(t, "no page", of(t, s, root), model{}, "")
	}
	if s.Used() != 1 {
		t.Errorf("Used %d", s.Used())
	}
}

// TestCw1PutArg: keys of 0 and 65 bytes, and values of 31, are none; of 1 and 64, and of 0 and 30, they are.
func TestCw1PutArg(t *testing.T) {
	_, s := spaceOf(t, 20)
	x, m := of(t, s, 0), model{}
	bytes := func(n int) string { return strings.Repeat("\xff", n) }
	for round := range 2 {
		for _, key := range []int{0, 1, 2, 63, 64, 65, 80, 81, 100, 1000} {
			for _, value := range []int{0, 1, 29, 30, 31, 36, 37, 100, 1000} {
				want := api.ErrArg
				if key >= 1 && key <= 64 && value <= 30 {
					want = api.OK
					m[bytes(key)] = bytes(value)
				}
				must(t, fmt.Sprintf("round %d: Put of %d and %d bytes", round, key, value), x.Put(bytes(key), bytes(value)), want)
				alone(t, "behind it", s, x, m)
			}
		}
	}
}

// TestCw1PutBytes: keys stand byte by byte, whatever the bytes are.
func TestCw1PutBytes(t *testing.T) {
	keys := []string{"\x00", "\x00\x00", "\x00\x01", "\x01", "\x7f", "\x80", "\x80\x00", "\xc3\xa9", "\xff", "\xff\x00", "\xff\xff", strings.Repeat("\x00", 64), strings.Repeat("\xff", 64), "a", "a\x00", "a\xff", "ab", "B"}
	for name, order := range orders(keys) {
		s, x, m := treeOf(t, order...)
		alone(t, name, s, x, m)
	}
}

// TestCw1PutAnew: of a key that is there the value is another one, be it longer or shorter, and no key is more.
func TestCw1PutAnew(t *testing.T) {
	for _, keys := range [][]string{{"a"}, unlike(150), numbered(60, 64)} {
		s, x, m := treeOf(t, keys...)
		for round, size := range []int{30, 0, 17, 30, 1} {
			for k, key := range mixed(dice(3), keys) {
				m[key] = strings.Repeat(string([]byte{byte(k)}), size)
				must(t, "Put", x.Put(key, m[key]), api.OK)
				gets(t, "put anew", x, key, m[key])
			}
			alone(t, fmt.Sprintf("%d keys, round %d", len(keys), round), s, x, m)
		}
	}
}

// sets are lists of keys, rising, of each kind.
func sets() map[string][]string {
	return map[string][]string{
		"one": {"a"}, "two": {"a", "b"}, "short": short(300), "unlike": unlike(200), "of 10": numbered(200, 10), "of 33": numbered(150, 33), "of 64": numbered(90, 64),
	}
}

// TestCw1PutOrders: keys that come rising, falling and mixed: the tree has them all behind each, and no other ones.
func TestCw1PutOrders(t *testing.T) {
	t.Parallel()
	for what, keys := range sets() {
		for name, order := range orders(keys) {
			_, s := spaceOf(t, 500)
			x, m := of(t, s, 0), model{}
			for k, key := range order {
				refusesGet(t, what, x, key, api.ErrNone)
				puts(t, x, m, 0, key)
				gets(t, what, x, key, m[key])
				if k%17 == 0 {
					alone(t, fmt.Sprintf("%s, %s, %d keys", what, name, k+1), s, x, m)
				}
			}
			alone(t, what+", "+name, s, x, m)
		}
	}
}

// TestCw1PutDeep: of the longest keys and values there are several pages one below the other.
func TestCw1PutDeep(t *testing.T) {
	for name, order := range orders(numbered(170, 64)) {
		_, s := spaceOf(t, 500)
		x, m := of(t, s, 0), model{}
		for _, key := range order {
			m[key] = strings.Repeat("v", 30)
			must(t, "Put", x.Put(key, m[key]), api.OK)
		}
		alone(t, name, s, x, m)
		if f := formOf(t, name, s, x.Root()); f.deep < 5 {
			t.Errorf("%s: only %d pages one below the other", name, f.deep)
		}
	}
}

// TestCw1PutRoom: while there are two pages for each key there are enough; ErrFull comes behind that, and the tree that was committed is there when the space is rolled back.
func TestCw1PutRoom(t *testing.T) {
	for _, pages := range []int{1, 2, 3, 4, 7, 30, 100} {
		for what, keys := range map[string][]string{"short": short(300), "long": numbered(300, 64)} {
			for name, order := range orders(keys) {
				_, s := spaceOf(t, pages)
				x, n, e := of(t, s, 0), 0, api.OK
				for ; n < len(order) && e == api.OK; n++ {
					e = x.Put(order[n], strings.Repeat("v", 30))
				}
				if e == api.OK && n == len(order) && pages >= 100 {
					continue
				}
				must(t, fmt.Sprintf("%s, %s, %d pages: Put of the key %d", what, name, pages, n), e, api.ErrFull)
				if 2*n <= pages {
					t.Errorf("%s, %s, %d pages: with %d keys there are not enough", what, name, pages, n)
				}
				must(t, "Rollback", s.Rollback(), api.OK)
				x = of(t, s, 0)
				puts(t, x, model{}, 0, order[0])
			}
		}
	}
}

// TestCw1PutFull: a tree that was committed can not be put to when there is no page that may be written; it is there when the space is rolled back, and when it is committed with other pages released.
func TestCw1PutFull(t *testing.T) {
	for _, n := range []int{1, 3, 20, 60} {
		_, s := spaceOf(t, 100)
		x, m := of(t, s, 0), model{}
		puts(t, x, m, 0, unlike(n)...)
		taken := fill(t, s)
		commits(t, s)
		root := x.Root()
		for _, key := range append(m.keys(), "new", "zz") {
			must(t, fmt.Sprintf("%d keys: Put(%q)", n, key), x.Put(key, "v"), api.ErrFull)
			must(t, "Rollback", s.Rollback(), api.OK)
			x = of(t, s, root)
			holds(t, "rolled back", s, x, m)
		}
		for _, page := range taken {
			must(t, "Release", s.Release(page), api.OK)
		}
		must(t, "Put ahead of the commit", x.Put("new", "v"), api.ErrFull)
		x = of(t, s, root)
		commits(t, s)
		puts(t, x, m, 1, "new", "zz")
		alone(t, "with pages", s, x, m)
	}
}

// fill takes all pages that are left.
func fill(t *testing.T, s *space.Space) []int {
	t.Helper()
	var taken []int
	for {
		n, e := s.Alloc()
		if e == api.ErrFull {
			return taken
		}
		must(t, "Alloc", e, api.OK)
		taken = append(taken, n)
	}
}
