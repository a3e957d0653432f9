package space_test

import (
	"fmt"
	"testing"

	"quayside/api"
	"quayside/space"
)

// TestSp4Names: a name of a page that is not in use is refused, and nothing is changed; it can be mended in each way.
func TestSp4Names(t *testing.T) {
	mend := map[string]func(s *space.Space) api.Errno{
		"forgotten":            func(s *space.Space) api.Errno { return s.Forget("b") },
		"given to another one": func(s *space.Space) api.Errno { return s.Name("b", 1) },
		"rolled back":          func(s *space.Space) api.Errno { return s.Rollback() },
	}
	for what, way := range mend {
		d, s := small(t, 7)
		m := newModel(7)
		both(t, s, m, step{kind: "Alloc"}, step{kind: "Alloc"}, step{kind: "Write", n: 2, text: full(2)}, step{kind: "Name", text: "a", n: 1}, step{kind: "Name", text: "b", n: 2}, step{kind: "Commit"})
		both(t, s, m, step{kind: "Release", n: 2}, step{kind: "Alloc"})
		was := bytesOf(t, d, 0, d.Size())
		for range 3 {
			both(t, s, m, step{kind: "Commit"})
		}
		same(t, "refused", s, m)
		if bytesOf(t, d, 0, d.Size()) != was {
			t.Error("a Commit that was refused has written")
		}
		same(t, "refused, and opened", opened(t, d, 0, d.Size()), m.rolledBack())
		must(t, what, way(s), api.OK)
		commits(t, s)
		if s.Turn() != 2 {
			t.Errorf("%s: Turn %d", what, s.Turn())
		}
	}
}

// TestSp4Sure: behind a Commit all that was done survives a crash that takes all that is not sure; the turn is one more each time.
func TestSp4Sure(t *testing.T) {
	d, s := small(t, 7)
	m := newModel(7)
	for turn, steps := range [][]step{
		{},
		{{kind: "Alloc"}},
		{{kind: "Alloc"}, {kind: "Write", n: 2, text: full(2)}},
		{{kind: "Name", text: "a", n: 1}, {kind: "Name", text: "b", n: 2}},
		{{kind: "Name", text: "a", n: 2}, {kind: "Forget", text: "b"}},
		{{kind: "Release", n: 1}, {kind: "Alloc"}, {kind: "Write", n: 3, text: full(3)}},
		{{kind: "Forget", text: "a"}, {kind: "Release", n: 2}, {kind: "Release", n: 3}},
		{{kind: "Alloc"}, {kind: "Alloc"}, {kind: "Write", n: 1, text: full(11)}, {kind: "Write", n: 1, text: full(12)}},
	} {
		both(t, s, m, steps...)
		both(t, s, m, step{kind: "Commit"})
		if d.Waits() != 0 || s.Turn() != turn+1 {
			t.Errorf("%d writes wait, Turn %d", d.Waits(), s.Turn())
		}
		same(t, "committed", s, m)
		crash(t, d)
		same(t, fmt.Sprint("opened behind commit ", turn+1), opened(t, d, 0, d.Size()), m)
	}
}

// TestSp4Rollback: behind each kind of change, and behind several, all is as it was committed last; the space goes on from there.
func TestSp4Rollback(t *testing.T) {
	changes := [][]step{
		{{kind: "Alloc"}},
		{{kind: "Alloc"}, {kind: "Write", n: 4, text: full(4)}},
		{{kind: "Alloc"}, {kind: "Release", n: 4}},
		{{kind: "Release", n: 2}},
		{{kind: "Release", n: 1}},
		{{kind: "Name", text: "c", n: 2}},
		{{kind: "Name", text: "a", n: 2}},
		{{kind: "Forget", text: "a"}},
		{{kind: "Forget", text: "a"}, {kind: "Name", text: "a", n: 3}},
		{{kind: "Alloc"}, {kind: "Name", text: "d", n: 4}, {kind: "Release", n: 4}},
		{{kind: "Release", n: 1}, {kind: "Release", n: 2}, {kind: "Release", n: 3}, {kind: "Alloc"}, {kind: "Alloc"}, {kind: "Forget", text: "a"}, {kind: "Forget", text: "b"}, {kind: "Write", n: 5, text: full(5)}},
		{},
	}
	for k, change := range changes {
		d, s := small(t, 7)
		m := newModel(7)
		both(t, s, m, step{kind: "Rollback"})
		same(t, "rolled back with nothing committed", s, m)
		both(t, s, m, change...)
		both(t, s, m, step{kind: "Rollback"})
		same(t, fmt.Sprint("of nothing committed, change ", k), s, m)
		for n := 1; n <= 3; n++ {
			both(t, s, m, step{kind: "Alloc"}, step{kind: "Write", n: n, text: full(n)})
		}
		both(t, s, m, step{kind: "Name", text: "a", n: 1}, step{kind: "Name", text: "b", n: 3}, step{kind: "Commit"})
		for range 3 {
			both(t, s, m, change...)
			same(t, fmt.Sprint("change ", k), s, m)
			both(t, s, m, step{kind: "Rollback"})
			same(t, fmt.Sprint("rolled back, change ", k), s, m)
			if s.Turn() != 1 || s.Used() != 3 {
				t.Errorf("Turn %d, Used %d", s.Turn(), s.Used())
			}
		}
		both(t, s, m, step{kind: "Alloc"}, step{kind: "Commit"})
		crash(t, d)
		same(t, fmt.Sprint("gone on, change ", k), opened(t, d, 0, d.Size()), m)
	}
}

// TestSp4RollbackOff: Rollback needs no power.
func TestSp4RollbackOff(t *testing.T) {
	d, s := small(t, 7)
	allocs(t, s, 1)
	commits(t, s)
	must(t, "Release", s.Release(1), api.OK)
	putOff(t, d)
	must(t, "Rollback", s.Rollback(), api.OK)
	if s.Used() != 1 || s.Turn() != 1 {
		t.Errorf("Used %d, Turn %d", s.Used(), s.Turn())
	}
}

// TestSp4LastTurn: as many commits as may be; then ErrFull, and nothing is changed.
func TestSp4LastTurn(t *testing.T) {
	t.Parallel()
	d, s := small(t, 1)
	allocs(t, s, 1)
	must(t, "Write", s.Write(1, full(1)), api.OK)
	must(t, "Name", s.Name("a", 1), api.OK)
	for turn := range lastTurn {
		if s.Turn() != turn {
			t.Fatalf("Turn %d, want %d", s.Turn(), turn)
		}
		commits(t, s)
		if turn&(turn+1) == 0 {
			if o := opened(t, d, 0, d.Size()); o.Turn() != turn+1 || o.Used() != 1 {
				t.Fatalf("opened: Turn %d, want %d; Used %d", o.Turn(), turn+1, o.Used())
			}
		}
	}
	for range 2 {
		was := bytesOf(t, d, 0, d.Size())
		for range 3 {
			must(t, "Commit behind the last turn", s.Commit(), api.ErrFull)
		}
		if bytesOf(t, d, 0, d.Size()) != was || s.Turn() != lastTurn {
			t.Errorf("Turn %d", s.Turn())
		}
		must(t, "Release", s.Release(1), api.OK)
		must(t, "Commit of a name without a page behind the last turn", s.Commit(), api.ErrSpace)
		must(t, "Rollback", s.Rollback(), api.OK)
		s = opened(t, d, 0, d.Size())
		reads(t, "of the last turn", s, 1, full(1))
		named(t, "of the last turn", s, "a", 1)
	}
	putOff(t, d)
	must(t, "Commit behind the last turn, without power", s.Commit(), api.ErrFull)
	crash(t, d)
	if s = opened(t, d, 0, d.Size()); s.Turn() != lastTurn {
		t.Errorf("Turn %d", s.Turn())
	}
}

// TestSp4Off: with the power off, each call that reads or writes is refused by ErrOff, where nothing else is wrong; the others are not.
func TestSp4Off(t *testing.T) {
	d, s := small(t, 4)
	allocs(t, s, 1, 2)
	must(t, "Name", s.Name("a", 1), api.OK)
	commits(t, s)
	allocs(t, s, 3)
	putOff(t, d)
	refusesAlloc(t, s, api.ErrOff)
	must(t, "Write", s.Write(3, full(3)), api.ErrOff)
	must(t, "Write of 255 bytes", s.Write(3, full(3)[1:]), api.ErrArg)
	must(t, "Write of one that was committed", s.Write(1, full(3)), api.ErrSpace)
	must(t, "Write of one not in use", s.Write(4, full(3)), api.ErrSpace)
	for n := range 7 {
		want := api.ErrSpace
		if n >= 1 && n <= 3 {
			want = api.ErrOff
		}
		refusesRead(t, "without power", s, n, want)
	}
	must(t, "Commit", s.Commit(), api.ErrOff)
	refusesOpen(t, "without power", d, 0, d.Size(), api.ErrOff)
	if s.Pages() != 4 || s.Used() != 3 || s.Turn() != 1 || !s.Fresh(3) || s.Fresh(1) {
		t.Errorf("Pages %d, Used %d, Turn %d, Fresh %t, %t", s.Pages(), s.Used(), s.Turn(), s.Fresh(3), s.Fresh(1))
	}
	named(t, "without power", s, "a", 1)
	must(t, "Name", s.Name("b", 2), api.OK)
	must(t, "Forget", s.Forget("b"), api.OK)
	must(t, "Release", s.Release(1), api.OK)
	must(t, "Commit of a name without a page", s.Commit(), api.ErrSpace)
	namesAre(t, "without power", s, "a")
}

// TestSp4OffFull: ErrFull stands ahead of ErrOff.
func TestSp4OffFull(t *testing.T) {
	d, s := small(t, 1)
	allocs(t, s, 1)
	putOff(t, d)
	refusesAlloc(t, s, api.ErrFull)
}

// TestSp4GoesOff: the power goes off at each writing of each call: it is refused by ErrOff, or done; behind a crash it is as it was committed last.
func TestSp4GoesOff(t *testing.T) {
	for _, x := range []step{{kind: "Alloc"}, {kind: "Write", n: 3, text: full(33)}, {kind: "Commit"}} {
		refused := 0
		for fuse := range 40 {
			d, s := small(t, 5)
			m := newModel(5)
			both(t, s, m, step{kind: "Alloc"}, step{kind: "Alloc"}, step{kind: "Write", n: 2, text: full(2)}, step{kind: "Name", text: "a", n: 2}, step{kind: "Commit"})
			both(t, s, m, step{kind: "Alloc"}, step{kind: "Write", n: 3, text: full(3)})
			must(t, "Fuse", d.Fuse(fuse), api.OK)
			n, e := do(s, x)
			if e == api.ErrOff {
				refused++
				if n != 0 || fuse != refused-1 || !d.Off() {
					t.Errorf("%v: %d, refused at fuse %d", x, n, fuse)
				}
				crash(t, d)
				same(t, fmt.Sprintf("%v at fuse %d", x, fuse), opened(t, d, 0, d.Size()), m.rolledBack())
				continue
			}
			if want, wantErr := m.do(x); n != want || e != wantErr {
				t.Errorf("%v: %d, error %d, want %d, error %d", x, n, e, want, wantErr)
			}
			same(t, fmt.Sprintf("%v done at fuse %d", x, fuse), s, m)
		}
		if refused < 8 || refused == 40 {
			t.Errorf("%v: refused at %d fuses", x, refused)
		}
	}
}
