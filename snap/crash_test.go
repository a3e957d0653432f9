package snap_test

import (
	"fmt"
	"slices"
	"testing"

	"quayside/api"
	"quayside/disk"
	"quayside/snap"
)

// survivors are ways in which of so many writes some survive: none, all, the first half, the last one alone, all but the first one, each second one, any, and parts.
func survivors(x *dice, n int) [][]int {
	out := make([][]int, 9)
	for k := range n {
		whole := func(yes bool) int {
			if yes {
				return 32
			}
			return 0
		}
		out[1] = append(out[1], 32)
		out[2] = append(out[2], whole(k < n/2))
		out[3] = append(out[3], whole(k == n-1))
		out[4] = append(out[4], whole(k > 0))
		out[5] = append(out[5], whole(k%2 == 0))
		out[6] = append(out[6], 32*x.below(2))
		out[7] = append(out[7], x.below(40)-4)
		out[8] = append(out[8], pick(x, 1, 4, 8, 31))
	}
	return out
}

// foundAs: behind a crash a store is as one of some models, opened again and again; which one.
func foundAs(t *testing.T, what string, d *disk.Disk, may ...model) int {
	t.Helper()
	s, wrong := opened(t, d), ""
	at := slices.IndexFunc(may, func(m model) bool {
		one := differs(s, m)
		wrong += "\n" + one
		return one == ""
	})
	if at < 0 {
		t.Fatalf("%s: it is none of %d:%s", what, len(may), wrong)
	}
	must(t, "Crash", d.Crash(nil), api.OK)
	is(t, what+", opened again", opened(t, d), may[at])
	return at
}

// change is what is done to a store, and what it has then.
type change struct {
	do   func(s *snap.Store) api.Errno
	then model
}

// changes are Saves and Drops of each kind, of a store that has something.
func changes(t *testing.T, had model) map[string]change {
	t.Helper()
	save := func(name string, l api.Ledger) change {
		return change{func(s *snap.Store) api.Errno { return s.Save(name, l) }, had.with(name, l)}
	}
	drop := func(name string) change {
		return change{func(s *snap.Store) api.Errno { return s.Drop(name) }, had.without(name)}
	}
	out := map[string]change{
		"Save of a new name":  save("new", replayed(t, receive("s", "x", 5), hold("s", "x", 2, 0))),
		"Save of nothing new": save("new", api.Ledger{}),
	}
	for _, name := range had.names()[:min(len(had), 2)] {
		out["Save of "+name] = save(name, full(t))
		out["Save of nothing as "+name] = save(name, api.Ledger{Ops: 8})
		out["Drop of "+name] = drop(name)
	}
	return out
}

// TestSv3EachWriting: Saves and Drops, with a crash at each writing, and of what was not sure each kind of survivors: each other name has its ledger, the one that is saved or dropped has what was there, or what comes; all is as it must be. Behind the call it has what comes.
func TestSv3EachWriting(t *testing.T) {
	t.Parallel()
	one := replayed(t, receive("s", "x", 5))
	many := model{}
	for k := range 8 {
		many[fmt.Sprint("name ", k)] = api.Ledger{Ops: k}
	}
	many["a"] = one
	for what, had := range map[string]model{"nothing": {}, "one": {"a": one}, "an empty one": {"a": {}}, "two": {"a": one, "b": full(t)}, "more names than a page has": many} {
		t.Run(what, func(t *testing.T) {
			t.Parallel()
			first, s := storeOf(t, 40)
			if !saveAll(s, had) {
				t.Fatal("Save")
			}
			crashes, done := 0, 0
			for name, c := range changes(t, had) {
				n, m := crashAtEach(t, what+": "+name, image(t, first), had, c)
				crashes, done = crashes+n, done+m
			}
			if crashes < 300 || done < 3 {
				t.Errorf("%d crashes, behind %d of them it was done", crashes, done)
			}
		})
	}
}

// crashAtEach lets a change crash at each writing, and behind them; how many crashes there were, and behind how many that were in its midst it was done.
func crashAtEach(t *testing.T, what, bytes string, had model, c change) (crashes, done int) {
	t.Helper()
	r := dice(2862933555777941757)
	for fuse, on := 0, false; !on; fuse++ {
		waits := 0
		for way := range 9 {
			// Where many writes are not sure each writing has three of the ways, two of them in turns.
			if waits > 20 && way != fuse%9 && way != (fuse+4)%9 {
				continue
			}
			d := diskOf(t, bytes)
			s := opened(t, d)
			must(t, "Fuse", d.Fuse(fuse), api.OK)
			may := []model{had, c.then}
			e := c.do(s)
			if on = e == api.OK; on {
				may = may[1:]
			} else {
				must(t, what, e, api.ErrOff)
			}
			waits = d.Waits()
			must(t, "Crash", d.Crash(survivors(&r, waits)[way]), api.OK)
			crashes++
			if foundAs(t, fmt.Sprintf("%s, fuse %d, way %d", what, fuse, way), d, may...) == 1 {
				done++
			}
		}
	}
	return crashes, done
}

// TestSv3LastWritings: the last writings of a Save in place of another one, and of a Drop, lost, kept or torn in every way together.
func TestSv3LastWritings(t *testing.T) {
	t.Parallel()
	had := model{"a": replayed(t, receive("s", "x", 5)), "b": replayed(t, receive("u", "y", 7))}
	first, s := storeOf(t, 20)
	if !saveAll(s, had) {
		t.Fatal("Save")
	}
	bytes := image(t, first)
	all := changes(t, had)
	crashes := 0
	for _, name := range []string{"Save of nothing as a", "Drop of b"} {
		c := all[name]
		goneOff := func(fuse int) (*disk.Disk, api.Errno) {
			d := diskOf(t, bytes)
			s := opened(t, d)
			must(t, "Fuse", d.Fuse(fuse), api.OK)
			return d, c.do(s)
		}
		for fuse := 0; ; fuse++ {
			d, e := goneOff(fuse)
			if e == api.OK {
				break
			}
			last := min(d.Waits(), 4)
			ahead := d.Waits() - last
			for which := range 81 {
				kept := slices.Repeat([]int{32 * (which % 2)}, ahead)
				for k, n := 0, which; k < last; k, n = k+1, n/3 {
					kept = append(kept, []int{0, 11, 32}[n%3])
				}
				d, _ := goneOff(fuse)
				must(t, "Crash", d.Crash(kept), api.OK)
				foundAs(t, fmt.Sprintf("%s, fuse %d, kept %d", name, fuse, kept), d, had, c.then)
				crashes++
			}
		}
	}
	if crashes < 1000 {
		t.Errorf("only %d crashes", crashes)
	}
}

// run is a store, held against a plain model.
type run struct {
	d         *disk.Disk
	s         *snap.Store
	m         model
	full, off int
}

// step does something to the store: what it has is what was there then, or, if it was done, what comes; in the midst of a crash, one of both.
func (x *run) step(t *testing.T, r *dice, what string) {
	t.Helper()
	name := pick(r, "a", "b", "c", "monday", "tuesday", "a\x00", "0123456789abcdef")
	_, has := x.m[name]
	next, e := x.m, api.OK
	if r.below(3) == 0 {
		must(t, "Fuse", x.d.Fuse(r.below(150)), api.OK)
	}
	if r.below(3) == 0 {
		next, e = x.m.without(name), x.s.Drop(name)
	} else {
		l := anyLedger(r, pick(r, 0, 1, 3, 8, 20))
		next, e = x.m.with(name, l), x.s.Save(name, l)
	}
	must(t, "Fuse", x.d.Fuse(-1), api.OK)
	switch e {
	case api.OK:
		x.m = next
	case api.ErrFull:
		x.full++
	case api.ErrNone:
		if has {
			t.Fatalf("%s: %q is not there", what, name)
		}
	default:
		must(t, what, e, api.ErrOff)
		x.off++
		must(t, "Crash", x.d.Crash(pick(r, survivors(r, x.d.Waits())...)), api.OK)
		if foundAs(t, what, x.d, x.m, next) == 1 {
			x.m = next
		}
		x.s = opened(t, x.d)
	}
	is(t, what, x.s, x.m)
}

// TestSv3Run: long runs of Saves and Drops held against a plain model, with crashes, in stores that are wide, and so small that pages do not suffice.
func TestSv3Run(t *testing.T) {
	t.Parallel()
	full, off := 0, 0
	for seed := range 12 {
		r := dice(1442695040888963407 + 7919*seed)
		x := &run{d: newDisk(t, 8*(3+pick(&r, 6, 15, 40, 90, 300))), m: model{}}
		x.s = opened(t, x.d)
		for k := range 60 {
			what := fmt.Sprintf("run %d, step %d", seed, k)
			x.step(t, &r, what)
			if k%10 == 0 {
				for name, l := range x.m {
					finds(t, what, x.s, name, l)
				}
			}
		}
		for _, name := range x.m.names() {
			if x.s.Drop(name) == api.ErrFull && x.s.Free() > 0 {
				t.Errorf("run %d: Drop is refused, %d pages are free", seed, x.s.Free())
			}
		}
		full, off = full+x.full, off+x.off
	}
	if full < 20 || off < 50 {
		t.Errorf("%d times ErrFull, %d times ErrOff", full, off)
	}
}

// TestSv3Stays: a ledger that was saved stays as it was, whatever is saved and dropped beside it.
func TestSv3Stays(t *testing.T) {
	t.Parallel()
	r := dice(12)
	_, s := storeOf(t, 120)
	l := full(t)
	saves(t, s, "it", l)
	m := model{"it": l}
	for k := range 40 {
		name := fmt.Sprint(r.below(4))
		if _, has := m[name]; has && r.below(2) == 0 {
			drops(t, s, name)
			delete(m, name)
		} else if l := anyLedger(&r, 10); s.Save(name, l) == api.OK {
			m[name] = l
		}
		is(t, fmt.Sprint("step ", k), s, m)
		finds(t, fmt.Sprint("step ", k), s, "it", l)
	}
}
