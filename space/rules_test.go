package space_test

import (
	"fmt"
	"slices"
	"strings"
	"testing"

	"quayside/api"
	"quayside/disk"
	"quayside/space"
)

var oddNumbers = []int{api.MinInt, api.MinInt + 1, -1 << 32, -9, -8, -1, 0, 1, 2, 7, 8, 9, 24, 31, 32, 63, 64, 500, 501, 504, 505, 4096, 4097, 1 << 32, 1 << 61, 1<<61 + 1, api.MaxInt - 1, api.MaxInt}

var oddTexts = []string{"", "\x00", "a", "12345678", "123456789", "\xff\xfe", strings.Repeat("n", 80), strings.Repeat("n", 255), strings.Repeat("n", 256), strings.Repeat("n", 257), strings.Repeat("\x00", 1<<16)}

// TestR1None: of nil, and of a space that Open did not give: 0, ErrArg, false, nothing.
func TestR1None(t *testing.T) {
	var none *space.Space
	for _, s := range []*space.Space{none, new(space.Space), {}} {
		if s.Pages() != 0 || s.Used() != 0 || s.Turn() != 0 || len(s.Names()) != 0 {
			t.Errorf("Pages %d, Used %d, Turn %d, Names %q", s.Pages(), s.Used(), s.Turn(), s.Names())
		}
		refusesAlloc(t, s, api.ErrArg)
		for _, n := range oddNumbers {
			must(t, "Release", s.Release(n), api.ErrArg)
			refusesRead(t, "none", s, n, api.ErrArg)
			must(t, "Write", s.Write(n, full(1)), api.ErrArg)
			must(t, "Name", s.Name("a", n), api.ErrArg)
			if s.Fresh(n) {
				t.Errorf("Fresh(%d)", n)
			}
		}
		for _, text := range oddTexts {
			must(t, "Write", s.Write(1, text), api.ErrArg)
			must(t, "Name", s.Name(text, 1), api.ErrArg)
			must(t, "Forget", s.Forget(text), api.ErrArg)
			named(t, "none", s, text, 0)
		}
		must(t, "Commit", s.Commit(), api.ErrArg)
		must(t, "Rollback", s.Rollback(), api.ErrArg)
		if s.Pages() != 0 || s.Turn() != 0 {
			t.Error("refused calls have changed it")
		}
	}
}

// TestR1Calls: every call ends without a panic, at all arguments, with the power on and off.
func TestR1Calls(t *testing.T) {
	defer func() {
		if r := recover(); r != nil {
			t.Error("panic:", r)
		}
	}()
	for _, d := range []*disk.Disk{nil, {}, newDisk(t, 1), newDisk(t, 31), newDisk(t, 32), newDisk(t, 90), newDisk(t, 4096)} {
		for _, from := range oddNumbers {
			for _, to := range oddNumbers {
				if s, e := space.Open(d, from, to); (s == nil) != (e != api.OK) {
					t.Errorf("Open(%d, %d): %v, error %d", from, to, s, e)
				}
			}
		}
	}
	d := newDisk(t, 4096)
	for _, to := range []int{32, 88, 4096} {
		s := opened(t, d, 0, to)
		for round := range 3 {
			for range 9 {
				s.Alloc()
			}
			for _, n := range oddNumbers {
				s.Fresh(n)
				s.Read(n)
				s.Release(n)
				for _, text := range oddTexts {
					s.Write(n, text)
					s.Name(text, n)
					s.Named(text)
				}
			}
			s.Names()
			s.Commit()
			for _, text := range oddTexts {
				s.Forget(text)
			}
			s.Commit()
			s.Rollback()
			if round == 1 {
				putOff(t, d)
			}
		}
		crash(t, d)
	}
}

// refused are calls that are refused, and not for want of power: of a space of which the pages 1 and 3 are in use, that were committed, the others were not.
func refused(t *testing.T, s *space.Space) {
	t.Helper()
	for _, n := range []int{0, -1, 9, 500, api.MaxInt, api.MinInt} {
		must(t, "Release", s.Release(n), api.ErrSpace)
		refusesRead(t, "refused", s, n, api.ErrSpace)
		must(t, "Write", s.Write(n, full(1)), api.ErrSpace)
		must(t, "Name", s.Name("z", n), api.ErrSpace)
	}
	must(t, "Write of one that was committed", s.Write(1, full(9)), api.ErrSpace)
	must(t, "Write of 255 bytes", s.Write(3, full(9)[1:]), api.ErrArg)
	must(t, "Write of 257 bytes", s.Write(3, full(9)+"x"), api.ErrArg)
	must(t, "Name", s.Name("", 1), api.ErrArg)
	must(t, "Name", s.Name("123456789", 1), api.ErrArg)
	must(t, "Forget", s.Forget("none"), api.ErrNone)
	refusesOpen(t, "refused", nil, 0, 80, api.ErrArg)
}

// TestR2: of two spaces the one on which calls are refused between the others answers as the other one does, and so does its disk, to the end of a fuse and behind a crash.
func TestR2(t *testing.T) {
	a, sa := small(t, 8)
	b, sb := small(t, 8)
	for _, s := range []*space.Space{sa, sb} {
		both(t, s, newModel(8), step{kind: "Alloc"}, step{kind: "Alloc"}, step{kind: "Alloc"}, step{kind: "Write", n: 1, text: full(1)}, step{kind: "Release", n: 2}, step{kind: "Name", text: "a", n: 1}, step{kind: "Commit"})
	}
	for k, x := range []step{
		{kind: "Alloc"}, {kind: "Write", n: 2, text: full(2)}, {kind: "Name", text: "b", n: 2}, {kind: "Commit"}, {kind: "Release", n: 2}, {kind: "Commit"}, {kind: "Forget", text: "b"}, {kind: "Commit"},
		{kind: "Alloc"}, {kind: "Alloc"}, {kind: "Write", n: 4, text: full(4)}, {kind: "Rollback"}, {kind: "Alloc"}, {kind: "Fuse", n: 14}, {kind: "Alloc"}, {kind: "Commit"},
	} {
		was := bytesOf(t, a, 0, a.Size())
		refused(t, sa)
		if bytesOf(t, a, 0, a.Size()) != was || a.Waits() != b.Waits() {
			t.Errorf("ahead of step %d: what is refused has written", k)
		}
		if x.kind == "Fuse" {
			a.Fuse(x.n)
			b.Fuse(x.n)
			continue
		}
		n, e := do(sa, x)
		if m, f := do(sb, x); n != m || e != f || a.Waits() != b.Waits() || a.Off() != b.Off() {
			t.Errorf("step %d, %v: %d, error %d, without what is refused: %d, error %d", k, x.kind, n, e, m, f)
		}
		if sa.Used() != sb.Used() || sa.Turn() != sb.Turn() || !slices.Equal(sa.Names(), sb.Names()) {
			t.Errorf("step %d, %v: Used %d, Turn %d, Names %q, want %d, %d, %q", k, x.kind, sa.Used(), sa.Turn(), sa.Names(), sb.Used(), sb.Turn(), sb.Names())
		}
	}
	if !a.Off() {
		t.Error("the fuse is not at its end")
	}
	crash(t, a, 32, 32, 20)
	crash(t, b, 32, 32, 20)
	if bytesOf(t, a, 0, a.Size()) != bytesOf(t, b, 0, b.Size()) {
		t.Error("the disks are not the same behind a crash")
	}
}

// TestR2Full: an Alloc that is refused by ErrFull has written nothing, and used nothing of a fuse.
func TestR2Full(t *testing.T) {
	d, s := small(t, 2)
	allocs(t, s, 1, 2)
	waits := d.Waits()
	must(t, "Fuse", d.Fuse(0), api.OK)
	for range 3 {
		refusesAlloc(t, s, api.ErrFull)
		must(t, "Name", s.Name("a", 3), api.ErrSpace)
	}
	if d.Waits() != waits || d.Off() {
		t.Errorf("%d writes wait, the power is off: %t", d.Waits(), d.Off())
	}
}

// TestR2Order: where several errors apply, it is the one that is named first.
func TestR2Order(t *testing.T) {
	d, s := small(t, 7)
	allocs(t, s, 1)
	for k := range 6 {
		must(t, "Name", s.Name(fmt.Sprint(k), 1), api.OK)
	}
	must(t, "no name, no page, no room", s.Name("", 2), api.ErrArg)
	must(t, "no name, no room", s.Name("123456789", 1), api.ErrArg)
	must(t, "no page, no room", s.Name("6", 2), api.ErrSpace)
	must(t, "no room", s.Name("6", 1), api.ErrFull)
	must(t, "no bytes, no page", s.Write(2, ""), api.ErrArg)
	putOff(t, d)
	must(t, "no bytes, no page, no power", s.Write(2, ""), api.ErrArg)
	must(t, "no page, no power", s.Write(2, full(1)), api.ErrSpace)
	must(t, "no power", s.Write(1, full(1)), api.ErrOff)
	refusesRead(t, "no page, no power", s, 2, api.ErrSpace)
	refusesRead(t, "no power", s, 1, api.ErrOff)
	must(t, "Release", s.Release(1), api.OK)
	must(t, "a name without a page, no power", s.Commit(), api.ErrSpace)
}

// TestR3: a list that was answered is the asker's; bytes that were answered stay as they were.
func TestR3(t *testing.T) {
	_, s := small(t, 7)
	allocs(t, s, 1)
	for _, name := range []string{"c", "a", "b"} {
		must(t, "Name", s.Name(name, 1), api.OK)
	}
	first := s.Names()
	second := s.Names()
	first[0], first[1] = "z", "z"
	_ = append(first[:1], "y")
	if !slices.Equal(second, []string{"a", "b", "c"}) {
		t.Errorf("%q", second)
	}
	namesAre(t, "asked again", s, "a", "b", "c")
	must(t, "Forget", s.Forget("a"), api.OK)
	if !slices.Equal(second, []string{"a", "b", "c"}) {
		t.Errorf("behind Forget: %q", second)
	}
	must(t, "Write", s.Write(1, full(1)), api.OK)
	b, _ := s.Read(1)
	must(t, "Write", s.Write(1, full(2)), api.OK)
	if b != full(1) {
		t.Errorf("behind Write: %q", b)
	}
}

// TestR4: what is answered hangs on the calls alone: the same ones lead to the same bytes, in whatever order names are gone over, and whatever is done to other spaces between.
func TestR4(t *testing.T) {
	a, sa := small(t, 9)
	b, sb := small(t, 9)
	_, other := small(t, 9)
	x, y := dice(99), dice(7)
	for k := range 400 {
		one := x.step(9)
		n, e := do(sa, one)
		if m, f := do(sb, one); n != m || e != f {
			t.Fatalf("step %d: %d, error %d, then %d, error %d", k, n, e, m, f)
		}
		do(other, y.step(9))
		if !slices.Equal(sa.Names(), sb.Names()) || a.Waits() != b.Waits() {
			t.Fatalf("step %d: Names %q, then %q", k, sa.Names(), sb.Names())
		}
		if bytesOf(t, a, 0, a.Size()) != bytesOf(t, b, 0, b.Size()) {
			t.Fatalf("step %d: the disks are not the same", k)
		}
	}
	if sa.Turn() < 20 {
		t.Errorf("only %d turns", sa.Turn())
	}
}
