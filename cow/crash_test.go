package cow_test

import (
	"fmt"
	"maps"
	"slices"
	"strings"
	"testing"

	"quayside/api"
	"quayside/cow"
	"quayside/disk"
	"quayside/space"
)

// survivors are ways in which of so many writes some survive: none, all, the first half, the last one alone, all but the first one, each second one, any, and parts.
func survivors(x *dice, n int) [][]int {
	out := make([][]int, 9)
	for k := range n {
		whole := func(yes bool) int {
			if yes {
				return 32
			}
			return 0
		}
		out[1] = append(out[1], 32)
		out[2] = append(out[2], whole(k < n/2))
		out[3] = append(out[3], whole(k == n-1))
		out[4] = append(out[4], whole(k > 0))
		out[5] = append(out[5], whole(k%2 == 0))
		out[6] = append(out[6], 32*x.below(2))
		out[7] = append(out[7], x.below(40)-4)
		out[8] = append(out[8], pick(x, 1, 4, 8, 31))
	}
	return out
}

// named is the tree of the root of a name; without the name, an empty one.
func named(t *testing.T, s *space.Space, name string) *cow.Tree {
	t.Helper()
	root, _ := s.Named(name)
	return of(t, s, root)
}

// name gives the root of a tree a name, or takes it away, if the tree is empty.
func name(t *testing.T, s *space.Space, name string, x *cow.Tree) {
	t.Helper()
	if x.Root() != 0 {
		must(t, "Name", s.Name(name, x.Root()), api.OK)
	} else if _, has := s.Named(name); has {
		must(t, "Forget", s.Forget(name), api.OK)
	}
}

// differs tells where a tree is not as its model; nothing, if it is.
func differs(t *testing.T, x *cow.Tree, m model) string {
	t.Helper()
	if e := x.Check(); e != api.OK {
		return fmt.Sprintf("Check: error %d", e)
	}
	keys := m.keys()
	for key, value := range x.From("") {
		if len(keys) == 0 || key != keys[0] || value != m[key] {
			return fmt.Sprintf("told %q, %q, want %.3q of %q", key, value, keys, m[key])
		}
		keys = keys[1:]
	}
	if len(keys) > 0 {
		return fmt.Sprintf("not told: %q", keys)
	}
	return ""
}

// is: a tree is as its model, and all pages in use are its own.
func is(t *testing.T, what string, s *space.Space, x *cow.Tree, m model) {
	t.Helper()
	if wrong := differs(t, x, m); wrong != "" {
		t.Fatalf("%s: %s", what, wrong)
	}
	pagesAre(t, what, x, inUse(s)...)
}

// changes are what may be done to a tree, each kind of it, of which some keys are there; what it answers at last, and what the tree has then.
func changes(keys []string) map[string]func(x *cow.Tree, m model) api.Errno {
	put := func(keys ...string) func(x *cow.Tree, m model) api.Errno {
		return func(x *cow.Tree, m model) api.Errno {
			for _, key := range keys {
				m[key] = "anew"
				if e := x.Put(key, "anew"); e != api.OK {
					return e
				}
			}
			return api.OK
		}
	}
	drop := func(keys ...string) func(x *cow.Tree, m model) api.Errno {
		return func(x *cow.Tree, m model) api.Errno {
			for _, key := range keys {
				delete(m, key)
				if e := x.Drop(key); e != api.OK {
					return e
				}
			}
			return api.OK
		}
	}
	clear := func(x *cow.Tree, m model) api.Errno {
		maps.DeleteFunc(m, func(string, string) bool { return true })
		return x.Clear()
	}
	var all, new []string
	all = mixed(dice(31), keys)
	for k := range 12 {
		new = append(new, fmt.Sprintf("%s+%d", keys[k*len(keys)/12], k)[:3])
	}
	return map[string]func(x *cow.Tree, m model) api.Errno{
		"Put of a new key":       put(keys[7] + "+"),
		"Put of a key below all": put("\x00"),
		"Put of a key above all": put("\xff"),
		"Put of a key again":     put(keys[9]),
		"Puts of new keys":       put(new...),
		"Puts of keys again":     put(all[:12]...),
		"Drop":                   drop(keys[4]),
		"Drop of the least":      drop(keys[0]),
		"Drop of the greatest":   drop(keys[len(keys)-1]),
		"Drops in a row":         drop(keys[5:20]...),
		"Drops of all but a few": drop(all[3:]...),
		"Drops of all":           drop(all...),
		"Clear":                  clear,
		"Puts behind a Clear": func(x *cow.Tree, m model) api.Errno {
			if e := clear(x, m); e != api.OK {
				return e
			}
			return put(all[:9]...)(x, m)
		},
		"Drops and Puts": func(x *cow.Tree, m model) api.Errno {
			if e := drop(keys[10:14]...)(x, m); e != api.OK {
				return e
			}
			return put(keys[12], "\xffz", keys[11])(x, m)
		},
	}
}

// commit lets a tree have a name, and be sure.
func commit(t *testing.T, s *space.Space, x *cow.Tree) api.Errno {
	t.Helper()
	name(t, s, "root", x)
	return s.Commit()
}

// TestCw3EachWriting: a tree that was committed, then changed in each way and committed again, with a crash at each writing, and of what was not sure each kind of survivors: it is found as it was; or, in the midst of the Commit, as it is committed; with no other page in use.
func TestCw3EachWriting(t *testing.T) {
	t.Parallel()
	keys := unlike(36)
	first, s := spaceOf(t, 60)
	tree, had := of(t, s, 0), model{}
	puts(t, tree, had, 0, mixed(dice(41), keys)...)
	must(t, "Commit", commit(t, s, tree), api.OK)
	bytes := image(t, first)
	r := dice(2862933555777941757)
	crashes, done := 0, 0
	for what, change := range changes(keys) {
		for fuse, on := 0, false; !on; fuse++ {
			for way := range 9 {
				// Where many pages are written each writing has two of the ways, in turns.
				if strings.Contains(what, "s ") && way != fuse%9 && way != (fuse+4)%9 {
					continue
				}
				d := diskOf(t, bytes)
				s := opened(t, d)
				x, m := named(t, s, "root"), maps.Clone(had)
				must(t, "Fuse", d.Fuse(fuse), api.OK)
				may := []model{had}
				e := change(x, m)
				if e == api.OK {
					may = append(may, m)
					e = commit(t, s, x)
				}
				if on = e == api.OK; on {
					may = may[1:]
				} else {
					must(t, what, e, api.ErrOff)
				}
				must(t, "Crash", d.Crash(survivors(&r, d.Waits())[way]), api.OK)
				crashes++
				if foundAs(t, fmt.Sprintf("%s, fuse %d, way %d", what, fuse, way), d, may) == 1 {
					done++
				}
			}
		}
	}
	if crashes < 5000 || done < 20 {
		t.Errorf("%d crashes, of which %d in the midst of a Commit that was done", crashes, done)
	}
}

// foundAs: behind a crash the tree is as one of its models, twice; which one.
func foundAs(t *testing.T, what string, d *disk.Disk, may []model) int {
	t.Helper()
	for range 2 {
		s := opened(t, d)
		x, wrong := named(t, s, "root"), ""
		pagesAre(t, what, x, inUse(s)...)
		at := slices.IndexFunc(may, func(m model) bool {
			one := differs(t, x, m)
			wrong += "\n" + one
			return one == ""
		})
		if at < 0 {
			t.Fatalf("%s: it is none of %d:%s", what, len(may), wrong)
		}
		may = may[at : at+1]
		must(t, "Crash", d.Crash(nil), api.OK)
		if at > 0 {
			return at
		}
	}
	return 0
}

// TestCw3LastCommit: the last writings of the commit of a changed tree, lost, kept or torn in every way together: it is found as it was, or as it is committed.
func TestCw3LastCommit(t *testing.T) {
	t.Parallel()
	keys := unlike(20)
	first, s := spaceOf(t, 30)
	tree, had := of(t, s, 0), model{}
	puts(t, tree, had, 0, keys...)
	must(t, "Commit", commit(t, s, tree), api.OK)
	bytes := image(t, first)
	goneOff := func(fuse int) (*disk.Disk, []model, api.Errno) {
		d := diskOf(t, bytes)
		s := opened(t, d)
		x, m := named(t, s, "root"), maps.Clone(had)
		drops(t, x, m, keys[3], keys[4], keys[12])
		puts(t, x, m, 1, keys[0], "new", "\xff")
		must(t, "Fuse", d.Fuse(fuse), api.OK)
		return d, []model{had, m}, commit(t, s, x)
	}
	crashes := 0
	for fuse := 0; ; fuse++ {
		d, _, e := goneOff(fuse)
		if e == api.OK {
			break
		}
		last := min(d.Waits(), 4)
		ahead := d.Waits() - last
		for which := range 81 {
			for _, all := range []int{0, 32} {
				kept := slices.Repeat([]int{all}, ahead)
				for k, n := 0, which; k < last; k, n = k+1, n/3 {
					kept = append(kept, []int{0, 11, 32}[n%3])
				}
				d, may, _ := goneOff(fuse)
				must(t, "Crash", d.Crash(kept), api.OK)
				foundAs(t, fmt.Sprintf("fuse %d, kept %d", fuse, kept), d, may)
				crashes++
			}
		}
	}
	if crashes < 1000 {
		t.Errorf("only %d crashes", crashes)
	}
}

// pair is two trees in one space, and what they have.
type pair struct {
	d         *disk.Disk
	s         *space.Space
	trees     [2]*cow.Tree
	now, last [2]model
}

var names = [2]string{"one", "two"}

// anew makes both trees of their names, as they were committed last.
func (p *pair) anew(t *testing.T) {
	t.Helper()
	for k := range 2 {
		p.trees[k], p.now[k] = named(t, p.s, names[k]), maps.Clone(p.last[k])
	}
}

func (p *pair) commit(t *testing.T) api.Errno {
	t.Helper()
	for k := range 2 {
		name(t, p.s, names[k], p.trees[k])
	}
	e := p.s.Commit()
	if e == api.OK {
		p.last = [2]model{maps.Clone(p.now[0]), maps.Clone(p.now[1])}
	}
	return e
}

// are: both trees are as their models, and all pages in use are those of one of them.
func (p *pair) are(t *testing.T, what string) {
	t.Helper()
	var all []int
	for k, x := range p.trees {
		if wrong := differs(t, x, p.now[k]); wrong != "" {
			t.Fatalf("%s, tree %s: %s", what, names[k], wrong)
		}
		pages, _ := x.Pages()
		if len(pages) > 2*len(p.now[k]) {
			t.Fatalf("%s, tree %s: %d pages with %d keys", what, names[k], len(pages), len(p.now[k]))
		}
		all = append(all, pages...)
	}
	slices.Sort(all)
	if !slices.Equal(all, inUse(p.s)) {
		t.Fatalf("%s: pages %d, in use %d", what, all, inUse(p.s))
	}
}

// step does something to one of the trees; what it answers.
func (p *pair) step(t *testing.T, r *dice, what string, keys []string) api.Errno {
	t.Helper()
	k, key := r.below(2), pick(r, keys...)
	x, m := p.trees[k], p.now[k]
	value, has := m[key]
	switch {
	case r.below(150) == 0:
		p.now[k] = model{}
		return x.Clear()
	case r.below(10) < 6:
		m[key] = valueOf(key, r.below(100))
		return x.Put(key, m[key])
	case has:
		delete(m, key)
		return x.Drop(key)
	}
	must(t, what+": Drop of none", x.Drop(key), api.ErrNone)
	if got, e := x.Get(key); got != value || e != api.ErrNone {
		t.Fatalf("%s: Get(%q): %q, error %d", what, key, got, e)
	}
	return api.OK
}

// TestCw3Beside: two trees in one space, beside one another, over long runs held against plain models, with Commits, Rollbacks and crashes, in spaces that are wide, and so small that pages do not suffice.
func TestCw3Beside(t *testing.T) {
	t.Parallel()
	full, off := 0, 0
	for seed := range 30 {
		r := dice(1442695040888963407 + 7919*seed)
		keys := pick(&r, unlike(120), numbered(50, 64), short(150), numbered(90, 20))
		p := &pair{d: newDisk(t, 8*(3+pick(&r, 12, 40, 90, 300))), last: [2]model{{}, {}}}
		p.s = opened(t, p.d)
		p.anew(t)
		for k := range 400 {
			what := fmt.Sprintf("run %d, step %d", seed, k)
			e := api.OK
			switch r.below(20) {
			case 0:
				e = p.commit(t)
			case 1:
				if r.below(3) == 0 {
					must(t, "Rollback", p.s.Rollback(), api.OK)
					p.anew(t)
				}
			case 2:
				must(t, "Fuse", p.d.Fuse(r.below(300)), api.OK)
			default:
				e = p.step(t, &r, what, keys)
			}
			switch e {
			case api.OK:
			case api.ErrFull:
				full++
				must(t, "Rollback", p.s.Rollback(), api.OK)
				p.anew(t)
			default:
				must(t, what, e, api.ErrOff)
				off++
				p.crash(t, &r)
			}
			if k%3 == 0 || e != api.OK {
				p.are(t, what)
			}
		}
	}
	if full < 50 || off < 50 {
		t.Errorf("%d times ErrFull, %d times ErrOff", full, off)
	}
}

// crash lets some writes survive; where that was in the midst of a Commit the turn tells whether it was done.
func (p *pair) crash(t *testing.T, r *dice) {
	t.Helper()
	turn := p.s.Turn()
	must(t, "Crash", p.d.Crash(pick(r, survivors(r, p.d.Waits())...)), api.OK)
	p.s = opened(t, p.d)
	if p.s.Turn() == turn+1 {
		p.last = p.now
	}
	p.anew(t)
}

// TestCw3Last: a tree has what was put last, over long runs held against a plain model.
func TestCw3Last(t *testing.T) {
	t.Parallel()
	for seed := range 12 {
		r := dice(6364136223846793005 + 977*seed)
		keys := [][]string{unlike(300), numbered(110, 64), short(500), numbered(260, 24)}[seed%4]
		_, s := spaceOf(t, 500)
		x, m := of(t, s, 0), model{}
		for step := range 2500 {
			what := fmt.Sprintf("run %d, step %d", seed, step)
			// Tides, so that trees grow and come back to none.
			key, grow := pick(&r, keys...), 2+6*(step/500%2)
			if _, has := m[key]; r.below(10) >= grow {
				puts(t, x, m, step, key)
				gets(t, what, x, key, m[key])
			} else if has {
				drops(t, x, m, key)
				refusesGet(t, what, x, key, api.ErrNone)
			}
			if step%9 == 0 && r.below(3) == 0 {
				if s.Commit() == api.ErrFull {
					t.Fatal("too many turns")
				}
			}
			if step%40 == 0 {
				alone(t, what, s, x, m)
				fromIs(t, what, x, m, key)
			}
		}
		drops(t, x, m, mixed(r, m.keys())...)
		alone(t, "none left", s, x, model{})
	}
}
