package space_test

import (
	"fmt"
	"strings"
	"testing"

	"quayside/api"
)

// others are numbers that are no pages of a space with seven.
var others = []int{0, -1, 8, 9, 63, 64, 65, 500, 501, 504, 505, 512, 1 << 32, 1<<32 + 1, 1<<62 + 1, -1 << 32, api.MaxInt, api.MinInt, api.MinInt + 1}

// TestSp2Alloc: the least page each time, up to the last one; then ErrFull.
func TestSp2Alloc(t *testing.T) {
	for _, size := range []int{1, 2, 7, 8, 9, 16, 63, 64, 65} {
		_, s := small(t, size)
		for n := 1; n <= size; n++ {
			if s.Used() != n-1 || s.Fresh(n) {
				t.Fatalf("%d pages: Used %d ahead of page %d, Fresh %t", size, s.Used(), n, s.Fresh(n))
			}
			allocs(t, s, n)
			if !s.Fresh(n) {
				t.Fatalf("page %d is not fresh", n)
			}
			reads(t, "taken", s, n, blank)
		}
		for range 3 {
			refusesAlloc(t, s, api.ErrFull)
		}
		if s.Used() != size {
			t.Errorf("Used %d, want %d", s.Used(), size)
		}
	}
}

// TestSp2AllocLeast: of pages that were released the least is taken first, at once if they were fresh.
func TestSp2AllocLeast(t *testing.T) {
	_, s := small(t, 7)
	allocs(t, s, 1, 2, 3, 4, 5)
	for _, n := range []int{4, 2, 3} {
		must(t, "Release", s.Release(n), api.OK)
	}
	if s.Used() != 2 {
		t.Errorf("Used %d", s.Used())
	}
	allocs(t, s, 2, 3, 4, 6, 7)
	refusesAlloc(t, s, api.ErrFull)
}

// TestSp2AllocBlank: its bytes are noughts, also where the page held others: written and released, written and rolled back, committed and released, lost in a crash.
func TestSp2AllocBlank(t *testing.T) {
	d, s := small(t, 3)
	take := func(what string) {
		t.Helper()
		allocs(t, s, 1)
		reads(t, what, s, 1, blank)
		must(t, "Write", s.Write(1, full(1)), api.OK)
		reads(t, what+", written", s, 1, full(1))
	}
	take("first")
	must(t, "Release", s.Release(1), api.OK)
	take("released")
	must(t, "Rollback", s.Rollback(), api.OK)
	take("rolled back")
	commits(t, s)
	must(t, "Release", s.Release(1), api.OK)
	commits(t, s)
	take("committed and released")
	must(t, "Flush", d.Flush(), api.OK)
	crash(t, d)
	s = opened(t, d, 0, d.Size())
	take("crashed, its bytes kept")
	crash(t, d, 32, 7, 0, 32)
	s = opened(t, d, 0, d.Size())
	take("crashed, its bytes torn")
	s = opened(t, diskOf(t, signs(48)), 0, 48)
	take("any bytes")
	s = opened(t, diskOf(t, signs(48)), 0, 48)
	allocs(t, s, 1)
	commits(t, s)
	reads(t, "committed without a writing", s, 1, blank)
}

// TestSp2NotTakenAgain: a page that was in use when it was committed last is not taken before the next commit, and is behind it.
func TestSp2NotTakenAgain(t *testing.T) {
	_, s := small(t, 3)
	allocs(t, s, 1, 2)
	commits(t, s)
	must(t, "Release", s.Release(1), api.OK)
	must(t, "Release", s.Release(2), api.OK)
	if s.Used() != 0 {
		t.Errorf("Used %d", s.Used())
	}
	allocs(t, s, 3)
	for range 2 {
		refusesAlloc(t, s, api.ErrFull)
	}
	must(t, "Release", s.Release(3), api.OK)
	allocs(t, s, 3)
	commits(t, s)
	allocs(t, s, 1, 2)
	refusesAlloc(t, s, api.ErrFull)
	must(t, "Rollback", s.Rollback(), api.OK)
	allocs(t, s, 1, 2)
	refusesAlloc(t, s, api.ErrFull)
}

// TestSp2Full: with all pages in use when it was committed last there is none to take, whatever was released.
func TestSp2Full(t *testing.T) {
	_, s := small(t, 2)
	allocs(t, s, 1, 2)
	commits(t, s)
	must(t, "Release", s.Release(1), api.OK)
	must(t, "Release", s.Release(2), api.OK)
	refusesAlloc(t, s, api.ErrFull)
	commits(t, s)
	allocs(t, s, 1, 2)
}

// TestSp2Release: of a page in use, fresh and committed; of one that is not; twice; of numbers that there are not.
func TestSp2Release(t *testing.T) {
	_, s := small(t, 7)
	for _, n := range append(others, 1, 7) {
		must(t, fmt.Sprintf("Release(%d) of none", n), s.Release(n), api.ErrSpace)
	}
	allocs(t, s, 1, 2, 3)
	commits(t, s)
	allocs(t, s, 4, 5)
	for _, n := range []int{2, 5} {
		must(t, "Release", s.Release(n), api.OK)
		for range 2 {
			must(t, "Release again", s.Release(n), api.ErrSpace)
		}
		refusesRead(t, "released", s, n, api.ErrSpace)
		must(t, "Write of what was released", s.Write(n, full(n)), api.ErrSpace)
		if s.Fresh(n) {
			t.Errorf("page %d is fresh, and was released", n)
		}
	}
	for _, n := range append(others, 6, 7) {
		must(t, fmt.Sprintf("Release(%d)", n), s.Release(n), api.ErrSpace)
	}
	if s.Used() != 3 {
		t.Errorf("Used %d", s.Used())
	}
	commits(t, s)
	must(t, "Release behind the commit", s.Release(2), api.ErrSpace)
	for _, n := range []int{1, 3, 4} {
		reads(t, "not released", s, n, blank)
	}
}

// TestSp2Write: 256 bytes, to a page that is fresh; as often as one likes; nothing else is changed.
func TestSp2Write(t *testing.T) {
	_, s := small(t, 7)
	allocs(t, s, 1, 2, 3)
	must(t, "Write", s.Write(1, full(1)), api.OK)
	must(t, "Write", s.Write(3, full(3)), api.OK)
	commits(t, s)
	allocs(t, s, 4, 5)
	sizes := []string{"", "x", full(9)[:255], full(9) + "x", strings.Repeat("x", 32), strings.Repeat("x", 512), strings.Repeat("x", 1<<16)}
	for _, n := range append(others, 1, 2, 3, 4, 5, 6) {
		for _, b := range sizes {
			must(t, fmt.Sprintf("Write(%d, %d bytes)", n, len(b)), s.Write(n, b), api.ErrArg)
		}
	}
	for _, n := range append(others, 1, 2, 3, 6, 7) {
		must(t, fmt.Sprintf("Write(%d)", n), s.Write(n, full(9)), api.ErrSpace)
	}
	for _, b := range []string{full(4), full(44), blank, strings.Repeat("\xff", 256), full(4)} {
		must(t, "Write(4)", s.Write(4, b), api.OK)
		reads(t, "written", s, 4, b)
	}
	for n, want := range map[int]string{1: full(1), 2: blank, 3: full(3), 4: full(4), 5: blank} {
		reads(t, "beside", s, n, want)
	}
	must(t, "Release", s.Release(1), api.OK)
	must(t, "Write of one that was committed, and released", s.Write(1, full(9)), api.ErrSpace)
	must(t, "Rollback", s.Rollback(), api.OK)
	reads(t, "rolled back", s, 1, full(1))
	must(t, "Write of one that was rolled back", s.Write(4, full(9)), api.ErrSpace)
}

// TestSp2Read: of each page in use, fresh or not; of the others none.
func TestSp2Read(t *testing.T) {
	d, s := small(t, 7)
	for n := range 9 {
		refusesRead(t, "none is in use", s, n, api.ErrSpace)
	}
	allocs(t, s, 1, 2)
	must(t, "Write", s.Write(2, full(2)), api.OK)
	commits(t, s)
	allocs(t, s, 3)
	must(t, "Write", s.Write(3, full(3)), api.OK)
	for _, n := range append(others, 4, 7) {
		refusesRead(t, "not in use", s, n, api.ErrSpace)
	}
	waits := d.Waits()
	for n, want := range map[int]string{1: blank, 2: full(2), 3: full(3)} {
		reads(t, "in use", s, n, want)
	}
	if d.Waits() != waits {
		t.Error("Read has written")
	}
}

// TestSp2Fresh: of pages that were taken since the last commit.
func TestSp2Fresh(t *testing.T) {
	d, s := small(t, 7)
	fresh := func(what string, want ...int) {
		t.Helper()
		for _, n := range append(others, 1, 2, 3, 4, 5, 6, 7) {
			is := false
			for _, w := range want {
				is = is || w == n
			}
			if s.Fresh(n) != is {
				t.Errorf("%s: Fresh(%d): %t", what, n, s.Fresh(n))
			}
		}
	}
	fresh("none is in use")
	allocs(t, s, 1, 2, 3)
	fresh("taken", 1, 2, 3)
	must(t, "Release", s.Release(2), api.OK)
	fresh("one released", 1, 3)
	commits(t, s)
	fresh("committed")
	allocs(t, s, 2, 4)
	fresh("others taken", 2, 4)
	must(t, "Release", s.Release(1), api.OK)
	fresh("one that was committed released", 2, 4)
	must(t, "Rollback", s.Rollback(), api.OK)
	fresh("rolled back")
	allocs(t, s, 2)
	must(t, "Release", s.Release(3), api.OK)
	commits(t, s)
	allocs(t, s, 3)
	fresh("taken again", 3)
	s = opened(t, d, 0, d.Size())
	fresh("opened")
}
