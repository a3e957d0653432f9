package space_test

import (
	"fmt"
	"testing"

	"quayside/api"
	"quayside/disk"
)

// TestExample: Alloc, Write, Name, Commit, a crash: the page is there, by its name.
func TestExample(t *testing.T) {
	d, s := small(t, 7)
	allocs(t, s, 1)
	must(t, "Write", s.Write(1, full(1)), api.OK)
	must(t, "Name", s.Name("root", 1), api.OK)
	commits(t, s)
	crash(t, d)
	s = opened(t, d, 0, 80)
	named(t, "behind the crash", s, "root", 1)
	reads(t, "behind the crash", s, 1, full(1))
}

// TestSp1Refused: each error of Open, at its edges.
func TestSp1Refused(t *testing.T) {
	d := newDisk(t, 80)
	for _, x := range []struct {
		what     string
		d        *disk.Disk
		from, to int
	}{
		{"nil", nil, 0, 80}, {"nil", nil, 0, 0}, {"a disk that was not given", new(disk.Disk), 0, 80}, {"a disk that was not given", new(disk.Disk), 0, 0},
		{"from below nought", d, -1, 80}, {"from below nought", d, -8, 72}, {"from far below", d, api.MinInt, 80}, {"to below nought", d, 0, -1}, {"to far below", d, 0, api.MinInt}, {"to so far below that it is beyond all numbers from there", d, 40, api.MinInt}, {"both below", d, -80, -1},
		{"to beyond the size", d, 0, 81}, {"to far beyond", d, 0, api.MaxInt}, {"from beyond the size", d, 81, 80}, {"both beyond", d, 81, 120}, {"both far beyond", d, api.MaxInt - 40, api.MaxInt}, {"as far apart as may be", d, api.MinInt, api.MaxInt}, {"the other way round", d, api.MaxInt, api.MinInt},
		{"the one behind the other", d, 80, 0}, {"the one behind the other", d, 40, 8}, {"no sectors", d, 0, 0}, {"no sectors", d, 80, 80},
		{"three whole pages", d, 0, 24}, {"three whole pages, and seven sectors", d, 0, 31}, {"three whole pages at the end", d, 49, 80}, {"a sector", d, 0, 1}, {"seven sectors", d, 3, 10},
	} {
		refusesOpen(t, x.what, x.d, x.from, x.to, api.ErrArg)
	}
	for _, from := range []int{0, 1, 48} {
		if s := opened(t, d, from, from+32); s.Pages() != 1 {
			t.Errorf("four whole pages: Pages %d", s.Pages())
		}
	}
	putOff(t, d)
	refusesOpen(t, "the power is off", d, 0, 80, api.ErrOff)
	refusesOpen(t, "four pages, the power is off", d, 48, 80, api.ErrOff)
	refusesOpen(t, "three pages, the power is off", d, 49, 80, api.ErrArg)
	refusesOpen(t, "beyond, the power is off", d, 0, 81, api.ErrArg)
	crash(t, d)
	same(t, "the power is on again", opened(t, d, 0, 80), newModel(7))
}

// TestSp1Pages: pages are whole ones, at most 500 of them besides the first three.
func TestSp1Pages(t *testing.T) {
	d := newDisk(t, 4096)
	for _, x := range []struct{ from, to, want int }{
		{0, 32, 1}, {0, 33, 1}, {0, 39, 1}, {0, 40, 2}, {3, 42, 1}, {3, 43, 2}, {0, 80, 7}, {0, 87, 7}, {0, 88, 8}, {4064, 4096, 1},
		{0, 8*502 + 7, 499}, {0, 8 * 503, 500}, {0, 8*503 + 7, 500}, {0, 8 * 504, 500}, {0, 4096, 500}, {72, 4096, 500}, {73, 4096, 499}, {81, 4096, 498},
	} {
		same(t, fmt.Sprint(x), opened(t, d, x.from, x.to), newModel(x.want))
	}
}

// TestSp1Never: sectors of any bytes that were never committed to have no pages in use, and no names, the turn 0; a commit of them is found.
func TestSp1Never(t *testing.T) {
	x := dice(271828)
	any := ""
	for range 80 * 32 {
		any += string([]byte{byte(x.below(256))})
	}
	ones := ""
	for range 80 * 32 {
		ones += "\xff"
	}
	for what, image := range map[string]string{"signs": signs(80), "any bytes": any, "ones": ones, "noughts": string(make([]byte, 80*32))} {
		d := diskOf(t, image)
		s, m := opened(t, d, 5, 79), newModel(6)
		same(t, what, s, m)
		if bytesOf(t, d, 0, 80) != image || d.Waits() != 0 {
			t.Errorf("%s: Open has written", what)
		}
		for range 3 {
			both(t, s, m, step{kind: "Alloc"}, step{kind: "Name", text: "a", n: 1}, step{kind: "Commit"})
			crash(t, d)
			s = opened(t, d, 5, 79)
			same(t, what+", committed", s, m)
		}
		if bytesOf(t, d, 0, 5) != image[:5*32] || bytesOf(t, d, 5+72, 80) != image[(5+72)*32:] {
			t.Errorf("%s: what is not the space's was written", what)
		}
	}
}

// TestSp1EmptyCommit: a commit of nothing counts, and is found.
func TestSp1EmptyCommit(t *testing.T) {
	d, s := small(t, 2)
	m := newModel(2)
	for range 5 {
		both(t, s, m, step{kind: "Commit"})
		crash(t, d)
		s = opened(t, d, 0, d.Size())
		same(t, "opened", s, m)
	}
	if s.Turn() != 5 {
		t.Errorf("Turn %d", s.Turn())
	}
}

// TestSp1Again: what was not committed is not there when it is opened again, without a crash too; the space that was open ahead goes on.
func TestSp1Again(t *testing.T) {
	d, s := small(t, 5)
	m := newModel(5)
	both(t, s, m, step{kind: "Alloc"}, step{kind: "Write", n: 1, text: full(1)}, step{kind: "Alloc"}, step{kind: "Name", text: "x", n: 2}, step{kind: "Commit"})
	both(t, s, m, step{kind: "Alloc"}, step{kind: "Write", n: 3, text: full(3)}, step{kind: "Release", n: 1}, step{kind: "Forget", text: "x"})
	same(t, "opened again", opened(t, d, 0, d.Size()), m.rolledBack())
	same(t, "the one that was open", s, m)
	both(t, s, m, step{kind: "Commit"})
	same(t, "committed, and opened again", opened(t, d, 0, d.Size()), m)
	same(t, "with seven sectors fewer than it has, opened again", opened(t, diskOf(t, bytesOf(t, d, 0, 64)+signs(7)), 0, 71), m)
}

// TestSp1More: with more sectors behind, it is as it was committed on those ahead of them, with more pages.
func TestSp1More(t *testing.T) {
	d := newDisk(t, 160)
	s, m := opened(t, d, 0, 80), newModel(7)
	both(t, s, m, step{kind: "Alloc"}, step{kind: "Write", n: 1, text: full(1)}, step{kind: "Name", text: "x", n: 1}, step{kind: "Commit"})
	m.size = 17
	s = opened(t, d, 0, 160)
	same(t, "more sectors", s, m)
	for range 16 {
		both(t, s, m, step{kind: "Alloc"})
	}
	both(t, s, m, step{kind: "Commit"})
	same(t, "more pages", opened(t, d, 0, 160), m)
	// Pages that the fewer sectors do not have are none of theirs.
	s = opened(t, d, 0, 80)
	if s.Pages() != 7 || s.Used() > 7 {
		t.Errorf("fewer sectors: Pages %d, Used %d", s.Pages(), s.Used())
	}
	s.Rollback()
	before := s.Turn()
	commits(t, s)
	if s = opened(t, d, 0, 80); s.Turn() != before+1 {
		t.Errorf("fewer sectors, committed: Turn %d, want %d", s.Turn(), before+1)
	}
}

// TestSp1Most: a space of as many pages as may be, all of them in use, with six names, is found as it was.
func TestSp1Most(t *testing.T) {
	d := newDisk(t, 4096)
	s, m := opened(t, d, 72, 4096), newModel(500)
	for n := 1; n <= 500; n++ {
		both(t, s, m, step{kind: "Alloc"}, step{kind: "Write", n: n, text: full(n)})
	}
	both(t, s, m, step{kind: "Alloc"})
	for _, n := range []int{1, 8, 9, 256, 499, 500} {
		both(t, s, m, step{kind: "Name", text: fmt.Sprintf("name %3d", n), n: n})
	}
	both(t, s, m, step{kind: "Commit"})
	crash(t, d)
	s = opened(t, d, 72, 4096)
	same(t, "all in use", s, m)
	both(t, s, m, step{kind: "Alloc"}, step{kind: "Release", n: 500}, step{kind: "Release", n: 9}, step{kind: "Name", text: "name 500", n: 8}, step{kind: "Forget", text: "name   9"}, step{kind: "Commit"})
	crash(t, d)
	s = opened(t, d, 72, 4096)
	same(t, "two released", s, m)
	both(t, s, m, step{kind: "Alloc"}, step{kind: "Alloc"}, step{kind: "Alloc"})
	same(t, "and taken again", s, m)
	if bytesOf(t, d, 0, 72) != string(make([]byte, 72*32)) {
		t.Error("what is not the space's was written")
	}
}
