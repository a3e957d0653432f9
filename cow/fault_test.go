package cow_test

import (
	"fmt"
	"slices"
	"strings"
	"testing"

	"quayside/api"
	"quayside/cow"
	"quayside/disk"
	"quayside/page"
	"quayside/space"
)

// readPage is a page, read without layer 14.
func readPage(t *testing.T, s *space.Space, n int) *page.Page {
	t.Helper()
	text, e := s.Read(n)
	must(t, fmt.Sprintf("Read(%d)", n), e, api.OK)
	p, e := page.Read(text)
	must(t, fmt.Sprintf("the page %d", n), e, api.OK)
	return p
}

// wayTo are the pages from the root down to the leaf of a key, read without layer 14.
func wayTo(t *testing.T, s *space.Space, root int, key string) []int {
	t.Helper()
	way := []int{root}
	for {
		p := readPage(t, s, way[len(way)-1])
		if p.Kind() == 1 {
			return way
		}
		child := 0
		for k := range p.Len() {
			if told, value := p.At(k); k == 0 || told <= key {
				child = int(value[0]) + 256*int(value[1])
			}
		}
		way = append(way, child)
	}
}

func leafOf(t *testing.T, s *space.Space, root int, key string) int {
	t.Helper()
	way := wayTo(t, s, root, key)
	return way[len(way)-1]
}

// faulty is a tree that was committed, of three pages one below the other and more, on a disk of which pages can be spoilt.
func faulty(t *testing.T) (*disk.Disk, *space.Space, *cow.Tree, model) {
	t.Helper()
	d, s := spaceOf(t, 120)
	x, m := of(t, s, 0), model{}
	puts(t, x, m, 0, mixed(dice(12), unlike(90))...)
	commits(t, s)
	if deepTo(t, s, x) < 3 {
		t.Fatal("it is not deep")
	}
	return d, s, x, m
}

// spoil writes a page's bytes from outside.
func spoil(t *testing.T, d *disk.Disk, n int, text string) {
	t.Helper()
	for k := range 8 {
		must(t, "Write", d.Write(8*(n+2)+k, text[32*k:32*k+32]), api.OK)
	}
}

// TestCw2Faults: where a page can not be read, is none of a tree's, or is not in use, each call that needs it is that error, and From tells nothing more; what does not need it goes on.
func TestCw2Faults(t *testing.T) {
	t.Parallel()
	faults := map[string]struct {
		want api.Errno
		do   func(d *disk.Disk, s *space.Space, n int)
	}{
		"its bytes are noughts": {api.ErrPage, func(d *disk.Disk, s *space.Space, n int) { spoil(t, d, n, strings.Repeat("\x00", 256)) }},
		"a byte of it is spoilt": {api.ErrPage, func(d *disk.Disk, s *space.Space, n int) {
			text, _ := s.Read(n)
			spoil(t, d, n, text[:200]+string([]byte{text[200] ^ 1})+text[201:])
		}},
		"it is of the kind 3": {api.ErrPage, func(d *disk.Disk, s *space.Space, n int) { spoil(t, d, n, bytesOf(t, 3, "a", two(1))) }},
		"it has no cells":     {api.ErrPage, func(d *disk.Disk, s *space.Space, n int) { spoil(t, d, n, bytesOf(t, 1)) }},
		"it is not in use":    {api.ErrSpace, func(d *disk.Disk, s *space.Space, n int) { must(t, "Release", s.Release(n), api.OK) }},
	}
	_, _, tree, _ := faulty(t)
	pages, _ := tree.Pages()
	for what, f := range faults {
		for k, n := range pages {
			if k%5 != 0 && n != tree.Root() {
				continue
			}
			for _, c := range calls() {
				d, s, x, m := faulty(t)
				ways := map[string][]int{}
				for key := range m {
					ways[key] = wayTo(t, s, x.Root(), key)
				}
				f.do(d, s, n)
				was := fmt.Sprintf("%s: %s of the page %d", what, c.name, n)
				faultyCall(t, was, s, x, m, ways, n, c, f.want)
			}
		}
	}
}

// faultyCall does a call to a tree whose page n is spoilt.
func faultyCall(t *testing.T, what string, s *space.Space, x *cow.Tree, m model, ways map[string][]int, n int, c call, want api.Errno) {
	t.Helper()
	used := s.Used()
	for _, key := range m.keys() {
		if slices.Contains(ways[key], n) {
			must(t, what, c.do(x, key), want)
			refusesGet(t, what, x, key, want)
			break
		}
		gets(t, what, x, key, m[key])
	}
	refusesPages(t, what, x, want)
	must(t, what+", Check", x.Check(), want)
	var ahead []string
	for _, key := range m.keys() {
		if slices.Contains(ways[key], n) {
			break
		}
		ahead = append(ahead, key)
	}
	if keys := told(t, what, x.From(""), m); !slices.Equal(keys, ahead) {
		t.Fatalf("%s: told %q, want %q", what, keys, ahead)
	}
	if s.Used() != used {
		t.Fatalf("%s: %d pages in use, want %d", what, s.Used(), used)
	}
}

// TestCw2FaultsBehind: a page on the way that is spoilt behind keys that are told already: nothing more is told then.
func TestCw2FaultsBehind(t *testing.T) {
	for stop := range 40 {
		d, s, x, m := faulty(t)
		keys := m.keys()
		leaf := leafOf(t, s, x.Root(), keys[stop])
		var all []string
		for key := range x.From("") {
			all = append(all, key)
			if len(all) == stop+1 {
				for _, n := range inUse(s) {
					spoil(t, d, n, strings.Repeat("\x00", 256))
				}
			}
		}
		if len(all) <= stop || !slices.Equal(all, keys[:len(all)]) || len(all) == len(keys) {
			t.Fatalf("%d keys told, spoilt behind %d", len(all), stop+1)
		}
		_, s, x, _ = faulty(t)
		if last := leafOf(t, s, x.Root(), all[len(all)-1]); last != leaf {
			t.Errorf("spoilt behind %d keys, told on to the page %d, from %d", stop+1, last, leaf)
		}
	}
}

// TestCw2FaultBeside: a Drop that joins a page with one beside it is an error, if that one can not be read, or is none that goes with it.
func TestCw2FaultBeside(t *testing.T) {
	for what, f := range map[string]struct {
		want api.Errno
		lay  func(s *space.Space, leaf, inner func(cells ...string) int) int
	}{
		"not in use": {api.ErrSpace, func(s *space.Space, leaf, inner func(cells ...string) int) int { return 400 }},
		"a leaf":     {api.ErrPage, func(s *space.Space, leaf, inner func(cells ...string) int) int { return leaf("m", "1") }},
		"a page of the kind 9": {api.ErrPage, func(s *space.Space, leaf, inner func(cells ...string) int) int {
			return laid(t, s, 9, "m", two(1))
		}},
		"what is told of two children is the same": {api.ErrPage, func(s *space.Space, leaf, inner func(cells ...string) int) int {
			return inner("a", two(leaf("n", "1")), "m", two(leaf("n", "2")))
		}},
		"keys that do not go with it": {api.ErrPage, func(s *space.Space, leaf, inner func(cells ...string) int) int {
			return inner("b", two(leaf("b", "1")), "c", two(leaf("c", "1")))
		}},
	} {
		for _, side := range []string{"behind", "ahead"} {
			_, s := spaceOf(t, 500)
			leaf, inner, _ := lays(t, s)
			other := f.lay(s, leaf, inner)
			root := 0
			if side == "behind" {
				root = inner("f", two(inner("f", two(leaf("f", "1")), "g", two(leaf("g", "2")))), "m", two(other))
			} else {
				root = inner("m", two(other), "p", two(inner("f", two(leaf("s", "1")), "t", two(leaf("t", "2")))))
			}
			x, used := of(t, s, root), s.Used()
			key := map[string]string{"behind": "f", "ahead": "t"}[side]
			gets(t, what, x, key, map[string]string{"behind": "1", "ahead": "2"}[side])
			must(t, fmt.Sprintf("%s, %s: Drop", what, side), x.Drop(key), f.want)
			if x.Root() != root || s.Used() != used {
				t.Errorf("%s, %s: the root %d, want %d; %d pages in use, want %d", what, side, x.Root(), root, s.Used(), used)
			}
		}
	}
}

// TestCw2FaultRing: a page beside the one that is to be joined is above it: that is no tree, and an error.
func TestCw2FaultRing(t *testing.T) {
	_, s := spaceOf(t, 500)
	leaf, inner, pages := lays(t, s)
	root := pages(1)[0]
	below := inner("b", two(inner("b", two(leaf("b", "1")), "c", two(leaf("c", "2")))), "k", two(root))
	must(t, "Write", s.Write(root, bytesOf(t, 2, "a", two(below))), api.OK)
	x := of(t, s, root)
	must(t, "Check", x.Check(), api.ErrPage)
	must(t, "Drop", x.Drop("b"), api.ErrPage)
	gets(t, "as it was", x, "b", "1")
}

// TestCw2Off: with the power off each call is ErrOff that needs a page, and From tells nothing; of an empty tree only Put does.
func TestCw2Off(t *testing.T) {
	d, s, x, m := faulty(t)
	empty := of(t, s, 0)
	putOff(t, d)
	for _, c := range calls() {
		for _, key := range []string{m.keys()[0], "none"} {
			must(t, c.name, c.do(x, key), api.ErrOff)
		}
	}
	fromIs(t, "off", x, model{}, "")
	for name, want := range map[string]api.Errno{"Get": api.ErrNone, "Put": api.ErrOff, "Drop": api.ErrNone, "Pages": api.OK, "Check": api.OK, "Clear": api.OK} {
		for _, c := range calls() {
			if c.name == name {
				must(t, name+" of an empty tree", c.do(empty, "k"), want)
			}
		}
	}
	must(t, "Crash", d.Crash(nil), api.OK)
	alone(t, "behind a crash", s, of(t, s, x.Root()), m)
}

// TestCw2Midst: the power goes off at each writing of a call: it is ErrOff; with enough of it the call is done.
func TestCw2Midst(t *testing.T) {
	t.Parallel()
	for _, c := range []call{calls()[1], calls()[2]} {
		for k, key := range []string{unlike(90)[0], unlike(90)[44], unlike(90)[89], "new"} {
			if c.name == "Drop" && key == "new" {
				continue
			}
			refused := 0
			for fuse := 0; ; fuse++ {
				d, _, x, _ := faulty(t)
				must(t, "Fuse", d.Fuse(fuse), api.OK)
				e := c.do(x, key)
				if e == api.OK {
					break
				}
				must(t, fmt.Sprintf("%s, key %d, fuse %d", c.name, k, fuse), e, api.ErrOff)
				refused++
			}
			if refused < 8 {
				t.Errorf("%s, key %d: only %d writings", c.name, k, refused)
			}
		}
	}
}

// TestCw2NoneIsWritten: whatever is done to a tree, the bytes of pages that were committed stay on the disk, till they are committed as released; and all pages that are in use are the tree's.
func TestCw2NoneIsWritten(t *testing.T) {
	t.Parallel()
	for seed := range 8 {
		r := dice(1234567 + 977*seed)
		d, s := spaceOf(t, 250)
		x, m := of(t, s, 0), model{}
		keys := pick(&r, unlike(150), numbered(70, 64), short(200))
		puts(t, x, m, 0, keys[:len(keys)/2]...)
		for turn := range 12 {
			commits(t, s)
			committed := inUse(s)
			was := image(t, d)
			for k := range 30 {
				switch key := pick(&r, keys...); {
				case r.below(40) == 0:
					must(t, "Clear", x.Clear(), api.OK)
					m = model{}
				case r.below(2) == 0:
					puts(t, x, m, turn, key)
				case m[key] != "":
					drops(t, x, m, key)
				}
				is := image(t, d)
				for _, n := range committed {
					if at := 256 * (n + 2); is[at:at+256] != was[at:at+256] {
						t.Fatalf("run %d, turn %d, step %d: the page %d was written", seed, turn, k, n)
					}
				}
				pagesAre(t, fmt.Sprintf("run %d, turn %d, step %d", seed, turn, k), x, inUse(s)...)
			}
			alone(t, fmt.Sprintf("run %d, turn %d", seed, turn), s, x, m)
		}
	}
}
