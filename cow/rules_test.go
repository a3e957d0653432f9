package cow_test

import (
	"fmt"
	"slices"
	"strings"
	"testing"

	"quayside/api"
	"quayside/cow"
	"quayside/space"
)

var oddTexts = []string{"", "\x00", "a", "k", "\xff\xfe", strings.Repeat("n", 30), strings.Repeat("n", 31), strings.Repeat("n", 64), strings.Repeat("n", 65), strings.Repeat("n", 80), strings.Repeat("n", 81), strings.Repeat("n", 256), strings.Repeat("\x00", 1<<16)}

// TestR1None: of nil, and of a tree that Of did not give: ErrArg, 0, nothing.
func TestR1None(t *testing.T) {
	var none *cow.Tree
	for _, x := range []*cow.Tree{none, new(cow.Tree), {}} {
		for _, key := range oddTexts {
			for _, c := range calls() {
				must(t, c.name, c.do(x, key), api.ErrArg)
			}
			refusesGet(t, "none", x, key, api.ErrArg)
			must(t, "Put", x.Put(key, key), api.ErrArg)
			fromIs(t, "none", x, model{}, key)
		}
		refusesPages(t, "none", x, api.ErrArg)
		if x.Root() != 0 {
			t.Errorf("the root %d", x.Root())
		}
	}
}

// TestR1Calls: every call ends without a panic, at all arguments, with the power on and off.
func TestR1Calls(t *testing.T) {
	defer func() {
		if r := recover(); r != nil {
			t.Error("panic:", r)
		}
	}()
	for _, root := range []int{api.MinInt, -1, 0, 1, 2, 7, 8, 500, 501, 1 << 16, 1<<16 + 1, 1 << 32, api.MaxInt} {
		d, s := spaceOf(t, 40)
		puts(t, of(t, s, 0), model{}, 0, unlike(20)...)
		for range 2 {
			x, e := cow.Of(s, root)
			if (x == nil) != (root < 0) || (e == api.OK) != (root >= 0) {
				t.Errorf("Of(%d): %v, error %d", root, x, e)
			}
			for _, key := range oddTexts {
				for _, value := range oddTexts {
					x.Put(key, value)
				}
				for _, c := range calls()[:5] {
					c.do(x, key)
				}
				for range x.From(key) {
				}
			}
			x.Clear()
			x.Root()
			putOff(t, d)
		}
	}
}

// TestR1Wrong: of pages that are no tree every call ends without a panic, each alone and one behind the other.
func TestR1Wrong(t *testing.T) {
	t.Parallel()
	defer func() {
		if r := recover(); r != nil {
			t.Error("panic:", r)
		}
	}()
	keys := append(slices.Clone(oddTexts), "b", "c", "d", "e", "f", "g", "z")
	for _, f := range wrong(t) {
		for _, c := range calls() {
			_, s := spaceOf(t, 500)
			x := of(t, s, f.lay(s))
			for _, key := range keys {
				c.do(x, key)
				n := 0
				for range x.From(key) {
					if n++; n > 1000 {
						t.Fatalf("%s: From tells without an end", f.what)
					}
				}
			}
		}
		_, s := spaceOf(t, 500)
		x, r := of(t, s, f.lay(s)), dice(7)
		for range 200 {
			pick(&r, calls()...).do(x, pick(&r, keys...))
		}
	}
}

// TestR1AnyPages: of pages of any keys and numbers every call ends without a panic; a tree of them of which Check is OK answers as a tree does.
func TestR1AnyPages(t *testing.T) {
	t.Parallel()
	checked := 0
	for seed := range 3000 {
		r := dice(88172645463325252 + 7919*seed)
		_, s := spaceOf(t, 40)
		for n := 1; n <= 7; n++ {
			anyPage(t, s, &r, n)
		}
		x := of(t, s, 1+r.below(7))
		if x.Check() == api.OK {
			checked++
			m := modelOf(t, s, x)
			holds(t, fmt.Sprint("run ", seed), s, x, m)
			for k := range 12 {
				if key := string([]byte{'a' + byte(r.below(12))}); r.below(2) == 0 {
					puts(t, x, m, k, key)
				} else if _, has := m[key]; has {
					drops(t, x, m, key)
				}
				if wrong := differs(t, x, m); wrong != "" {
					t.Fatalf("run %d, step %d: %s", seed, k, wrong)
				}
			}
			continue
		}
		for range 20 {
			key := string([]byte{'a' + byte(r.below(12))})
			pick(&r, calls()...).do(x, key)
			last := ""
			for told := range x.From(key) {
				if told < key || told <= last {
					t.Fatalf("run %d: From(%q) tells %q behind %q", seed, key, told, last)
				}
				last = told
			}
		}
	}
	if checked < 50 {
		t.Errorf("only %d were trees", checked)
	}
}

// anyPage lays a page, most of them of a kind and with cells that a tree's may have: the pages 1 to 4 are leaves whose keys rise, the others stand above them.
func anyPage(t *testing.T, s *space.Space, r *dice, n int) {
	t.Helper()
	kind := 2
	if n <= 4 {
		kind = 1
	}
	if r.below(12) == 0 {
		kind = 1 + r.below(3)
	}
	cells := map[string]string{}
	for k := range 1 + r.below(3) {
		key := string([]byte{'a' + byte(min(3*((n-1)%4)+k+r.below(2), 25))})
		if kind == 1 {
			cells[key] = "v"
			continue
		}
		child := 1 + (n+k+3)%4
		if r.below(6) == 0 {
			child = r.below(9)
		}
		cells[string([]byte{'a' + byte(3*(child-1+4)%12)})] = two(child)
	}
	var list []string
	for key, value := range cells {
		list = append(list, key, value)
	}
	laid(t, s, kind, list...)
}

// TestR2Order: where several errors apply, it is the one that is named first.
func TestR2Order(t *testing.T) {
	d, s := spaceOf(t, 7)
	tree := laid(t, s, 1, "a", "1")
	for _, root := range []int{0, tree, 5} {
		for _, off := range []bool{false, true} {
			if off {
				putOff(t, d)
			}
			x := of(t, s, root)
			must(t, "Put of no key", x.Put("", "v"), api.ErrArg)
			must(t, "Put of a long key", x.Put(strings.Repeat("k", 65), "v"), api.ErrArg)
			must(t, "Put of a long value", x.Put("k", strings.Repeat("v", 31)), api.ErrArg)
		}
		must(t, "Crash", d.Crash([]int{32, 32, 32, 32, 32, 32, 32, 32, 32, 32, 32, 32, 32, 32, 32, 32}), api.OK)
	}
	putOff(t, d)
	must(t, "a root not in use, no power", of(t, s, 5).Check(), api.ErrSpace)
	must(t, "no power", of(t, s, tree).Check(), api.ErrOff)
	must(t, "Crash", d.Crash(slices.Repeat([]int{32}, 40)), api.OK)
	fill(t, s)
	putOff(t, d)
	must(t, "no page, no power", of(t, s, 0).Put("k", "v"), api.ErrFull)
}

// refused are calls that are refused, and not for want of power.
func refused(t *testing.T, s *space.Space, x *cow.Tree, none string) {
	t.Helper()
	must(t, "Put", x.Put("", "v"), api.ErrArg)
	must(t, "Put", x.Put(strings.Repeat("k", 65), "v"), api.ErrArg)
	must(t, "Put", x.Put("k", strings.Repeat("v", 31)), api.ErrArg)
	must(t, "Drop", x.Drop(none), api.ErrNone)
	must(t, "Drop", x.Drop(""), api.ErrNone)
	refusesGet(t, "refused", x, none, api.ErrNone)
	if _, e := cow.Of(s, -1); e != api.ErrArg {
		t.Errorf("Of: error %d", e)
	}
	must(t, "Check of another root", of(t, s, 499).Check(), api.ErrSpace)
	must(t, "Clear of another root", of(t, s, 499).Clear(), api.ErrSpace)
}

// TestR2: of two trees the one on which calls are refused between the others answers as the other one does, and so does its disk.
func TestR2(t *testing.T) {
	a, sa := spaceOf(t, 100)
	b, sb := spaceOf(t, 100)
	xa, xb := of(t, sa, 0), of(t, sb, 0)
	r := dice(17)
	keys := unlike(60)
	for k := range 300 {
		was, waits := image(t, a), a.Waits()
		refused(t, sa, xa, "none")
		if image(t, a) != was || a.Waits() != waits {
			t.Fatalf("step %d: what is refused has written", k)
		}
		key := pick(&r, keys...)
		c := pick(&r, calls()[1], calls()[1], calls()[1], calls()[2])
		if e, f := c.do(xa, key), c.do(xb, key); e != f {
			t.Fatalf("step %d: %s(%q): error %d, without what is refused %d", k, c.name, key, e, f)
		}
		if r.below(25) == 0 {
			commits(t, sa)
			commits(t, sb)
		}
		if xa.Root() != xb.Root() || sa.Used() != sb.Used() || image(t, a) != image(t, b) || a.Waits() != b.Waits() {
			t.Fatalf("step %d: the root %d, want %d; %d pages in use, want %d", k, xa.Root(), xb.Root(), sa.Used(), sb.Used())
		}
	}
}

// TestR3: what was answered does not change when the tree does, and what is done to it changes nothing.
func TestR3(t *testing.T) {
	s, x, m := treeOf(t, unlike(80)...)
	pages, _ := x.Pages()
	kept := slices.Clone(pages)
	other, _ := x.Pages()
	for k := range other {
		other[k] = -1
	}
	_ = append(other[:1], 7, 7)
	pagesAre(t, "a list that was changed", x, kept...)
	var keys, values []string
	for key, value := range x.From("") {
		keys, values = append(keys, key), append(values, value)
	}
	value, _ := x.Get(keys[3])
	was := [3]string{strings.Join(keys, "|"), strings.Join(values, "|"), strings.Clone(value)}
	for _, key := range keys {
		must(t, "Put", x.Put(key, strings.Repeat("#", 30)), api.OK)
	}
	must(t, "Clear", x.Clear(), api.OK)
	puts(t, x, model{}, 9, numbered(50, 40)...)
	if was != [3]string{strings.Join(keys, "|"), strings.Join(values, "|"), value} || !slices.Equal(pages, kept) {
		t.Error("what was answered has changed")
	}
	if len(m) != 80 || s.Used() == 0 {
		t.Error(len(m), s.Used())
	}
}

// TestR3HandedIn: keys and values that are handed in as parts of bytes that change then stay as they were.
func TestR3HandedIn(t *testing.T) {
	_, x, _ := treeOf(t)
	bytes := []byte("keyvalue")
	must(t, "Put", x.Put(string(bytes[:3]), string(bytes[3:])), api.OK)
	from := x.From(string(bytes[:3]))
	copy(bytes, "########")
	gets(t, "changed since", x, "key", "value")
	if keys := told(t, "changed since", from, model{"key": "value"}); !slices.Equal(keys, []string{"key"}) {
		t.Errorf("told %q", keys)
	}
}

// TestR4: what is answered hangs on the calls alone: the same ones lead to the same bytes, whatever is done to other trees between.
func TestR4(t *testing.T) {
	a, sa := spaceOf(t, 120)
	b, sb := spaceOf(t, 120)
	_, so := spaceOf(t, 120)
	xa, xb, other := of(t, sa, 0), of(t, sb, 0), of(t, so, 0)
	r, o := dice(99), dice(7)
	keys := unlike(90)
	for k := range 500 {
		c, key := pick(&r, calls()[0], calls()[1], calls()[1], calls()[2], calls()[4]), pick(&r, keys...)
		if e, f := c.do(xa, key), c.do(xb, key); e != f {
			t.Fatalf("step %d: %s: error %d, then %d", k, c.name, e, f)
		}
		pick(&o, calls()...).do(other, pick(&o, keys...))
		if r.below(20) == 0 {
			commits(t, sa)
			commits(t, sb)
			// A tree that is made anew of the root goes on as the one that was there.
			xb = of(t, sb, xb.Root())
		}
		if xa.Root() != xb.Root() || image(t, a) != image(t, b) {
			t.Fatalf("step %d: the roots %d and %d, the disks are the same: %t", k, xa.Root(), xb.Root(), image(t, a) == image(t, b))
		}
	}
}
