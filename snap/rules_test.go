package snap_test

import (
	"fmt"
	"slices"
	"strings"
	"testing"

	"quayside/api"
	"quayside/snap"
)

var oddNumbers = []int{api.MinInt, -1 << 32, -1, 0, 1, 3, 4, 5, 6, 15, 16, 64, 1 << 32, api.MaxInt}

var oddTexts = []string{"", "\x00", "a", "stock", "holds", "moves", "ledgers", "\xff\xfe", strings.Repeat("n", 16), strings.Repeat("n", 17), strings.Repeat("\x00", 1<<16)}

// TestR1None: of nil, and of a store that Open did not give: ErrArg, nothing, 0.
func TestR1None(t *testing.T) {
	var none *snap.Store
	for _, s := range []*snap.Store{none, new(snap.Store), {}} {
		for _, name := range oddTexts {
			for _, c := range calls() {
				must(t, c.name, c.do(s, name), api.ErrArg)
			}
			must(t, "Save", s.Save(name, full(t)), api.ErrArg)
			refusesLoad(t, "none", s, name, api.ErrArg)
			for _, col := range oddNumbers {
				refusesFind(t, s, name, name, col, text("a"), api.ErrArg)
			}
		}
		refusesNames(t, "none", s, api.ErrArg)
		if s.Free() != 0 {
			t.Errorf("Free: %d", s.Free())
		}
	}
}

// TestR1Calls: every call ends without a panic, at all arguments, with the power on and off.
func TestR1Calls(t *testing.T) {
	defer func() {
		if r := recover(); r != nil {
			t.Error("panic:", r)
		}
	}()
	for _, pages := range []int{1, 2, 9, 500} {
		d, s := storeOf(t, pages)
		for range 2 {
			for _, name := range oddTexts {
				for _, l := range append(mayNot(t), full(t), api.Ledger{}) {
					s.Save(name, l)
				}
				for _, of := range oddTexts {
					for _, col := range oddNumbers {
						for _, v := range odd {
							s.Find(name, of, col, v)
						}
					}
				}
				for _, c := range calls() {
					c.do(s, name)
				}
				s.Free()
			}
			putOff(t, d)
		}
	}
}

// refused are calls that are refused, and not for want of power.
func refused(t *testing.T, s *snap.Store) {
	t.Helper()
	must(t, "Save of no name", s.Save("", full(t)), api.ErrArg)
	must(t, "Save of a long name", s.Save(strings.Repeat("n", 17), full(t)), api.ErrArg)
	must(t, "Save of what may not be", s.Save("a", mayNot(t)[2]), api.ErrArg)
	must(t, "Save of too much", s.Save("a", rowsOf(2001, 0, 0)), api.ErrArg)
	must(t, "Save with too few pages", s.Save("a", rowsOf(300, 0, 0)), api.ErrFull)
	must(t, "Drop", s.Drop("none"), api.ErrNone)
	refusesLoad(t, "refused", s, "none", api.ErrNone)
	refusesFind(t, s, "none", "stock", 0, text("a"), api.ErrNone)
	refusesFind(t, s, "a", "none", 0, text("a"), api.ErrNone)
	refusesFind(t, s, "a", "stock", 4, text("a"), api.ErrNone)
}

// TestR2: of two stores the one on which calls are refused between the others answers as the other one does, and so does its disk.
func TestR2(t *testing.T) {
	t.Parallel()
	a, sa := storeOf(t, 30)
	b, sb := storeOf(t, 30)
	r := dice(17)
	for k := range 60 {
		was := image(t, a)
		refused(t, sa)
		untouched(t, fmt.Sprint("step ", k), a, was)
		name := pick(&r, "a", "b", "c")
		if l := anyLedger(&r, 5); r.below(3) > 0 {
			if e, f := sa.Save(name, l), sb.Save(name, l); e != f {
				t.Fatalf("step %d: Save: error %d, without what is refused %d", k, e, f)
			}
		} else if e, f := sa.Drop(name), sb.Drop(name); e != f {
			t.Fatalf("step %d: Drop: error %d, without what is refused %d", k, e, f)
		}
		if sa.Free() != sb.Free() || image(t, a) != image(t, b) || a.Waits() != b.Waits() {
			t.Fatalf("step %d: %d are free, want %d", k, sa.Free(), sb.Free())
		}
	}
}

// TestR2Fuse: what is refused takes nothing of a fuse.
func TestR2Fuse(t *testing.T) {
	d, s := storeOf(t, 30)
	saves(t, s, "a", full(t))
	must(t, "Fuse", d.Fuse(0), api.OK)
	refused(t, s)
	is(t, "asked", s, model{"a": full(t)})
	if d.Off() {
		t.Fatal("the power is off")
	}
	must(t, "Save", s.Save("b", api.Ledger{}), api.ErrOff)
	if !d.Off() {
		t.Error("the power is on")
	}
}

// TestR2Order: where several errors apply, it is the one that is named first.
func TestR2Order(t *testing.T) {
	d, s := storeOf(t, 2)
	great := rowsOf(300, 0, 0)
	must(t, "no name, too few pages", s.Save("", great), api.ErrArg)
	must(t, "may not be, too few pages", s.Save("a", api.Ledger{Stocks: great.Stocks, Ops: -1}), api.ErrArg)
	must(t, "too few pages", s.Save("a", great), api.ErrFull)
	saves(t, s, "a", api.Ledger{})
	must(t, "too few pages", s.Save("b", great), api.ErrFull)
	must(t, "not there", s.Drop("b"), api.ErrNone)
	spoil(t, d, 1, strings.Repeat("x", 256))
	must(t, "too few pages, one of them spoilt", s.Save("a", great), api.ErrFull)
	must(t, "one page spoilt", s.Save("a", api.Ledger{}), api.ErrPage)
	must(t, "no name, one page spoilt", s.Drop(""), api.ErrNone)
}

// TestR3: what is handed in is not changed, and not kept; what is answered is new memory.
func TestR3(t *testing.T) {
	d, s := storeOf(t, 100)
	l, want := full(t), full(t)
	// Lists with room behind their ends.
	l.Stocks, l.Holds, l.Moves = slices.Grow(l.Stocks, 5), slices.Grow(l.Holds, 5), slices.Grow(l.Moves, 5)
	behind := api.Stock{Sku: "behind", Loc: "x", OnHand: 7}
	l.Stocks[:len(l.Stocks)+1][len(l.Stocks)] = behind
	saves(t, s, "a", l)
	if !same(l, want) || l.Stocks[:len(l.Stocks)+1][len(l.Stocks)] != behind {
		t.Error("what was handed in is another")
	}
	clear(l.Stocks)
	clear(l.Holds)
	clear(l.Moves)
	is(t, "cleared", s, model{"a": want})
	first, _ := s.Load("a")
	second, _ := s.Load("a")
	clear(first.Stocks)
	clear(first.Holds)
	clear(first.Moves)
	if !same(second, want) {
		t.Error("two answers share memory")
	}
	is(t, "an answer was cleared", s, model{"a": want})
	rows, _ := s.Find("a", "moves", 4, text("receive"))
	again, _ := s.Find("a", "moves", 4, text("receive"))
	for _, r := range rows {
		clear(r)
	}
	_ = append(rows[0][:2], api.Value{Kind: api.Int, N: 1})
	if !sameRows(again, tableOf(t, want, "moves").Same(4, text("receive"))) {
		t.Error("two answers share memory")
	}
	saves(t, s, "b", api.Ledger{})
	names, _ := s.Names()
	names[0], names[1] = "z", "z"
	is(t, "names were changed", s, model{"a": want, "b": {}})
	drops(t, s, "a")
	if !same(second, want) || !sameRows(again, tableOf(t, want, "moves").Same(4, text("receive"))) {
		t.Error("what was answered has changed")
	}
	is(t, "dropped", opened(t, d), model{"b": {}})
}

// TestR3Nil: nil and the empty list are the same.
func TestR3Nil(t *testing.T) {
	a, sa := storeOf(t, 20)
	b, sb := storeOf(t, 20)
	saves(t, sa, "a", api.Ledger{})
	saves(t, sb, "a", api.Ledger{Stocks: []api.Stock{}, Holds: []api.Hold{}, Moves: []api.Move{}})
	if image(t, a) != image(t, b) {
		t.Error("the disks are not the same")
	}
}

// TestR4: what is answered hangs on the calls alone: the same ones lead to the same bytes, whatever is done to other stores between, and whether it is opened anew.
func TestR4(t *testing.T) {
	t.Parallel()
	a, sa := storeOf(t, 50)
	b, sb := storeOf(t, 50)
	_, so := storeOf(t, 50)
	r, o := dice(99), dice(7)
	for k := range 80 {
		name, l := pick(&r, "a", "b", "c", "d"), anyLedger(&r, pick(&r, 0, 3, 12))
		c := pick(&r, calls()...)
		if c.name == "Save" {
			c.do = func(s *snap.Store, name string) api.Errno { return s.Save(name, l) }
		}
		if e, f := c.do(sa, name), c.do(sb, name); e != f {
			t.Fatalf("step %d: %s: error %d, then %d", k, c.name, e, f)
		}
		so.Save(pick(&o, "x", "y"), anyLedger(&o, 6))
		if r.below(5) == 0 {
			sb = opened(t, b)
		}
		if image(t, a) != image(t, b) || sa.Free() != sb.Free() {
			t.Fatalf("step %d: the disks are not the same", k)
		}
	}
}
