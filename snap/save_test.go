package snap_test

import (
	"fmt"
	"slices"
	"strings"
	"testing"

	"quayside/api"
	"quayside/disk"
	"quayside/snap"
	"quayside/space"
)

// TestSv1Example: Save monday, Load monday: the ledger.
func TestSv1Example(t *testing.T) {
	_, s := storeOf(t, 100)
	l := full(t)
	saves(t, s, "monday", l)
	if m, e := s.Load("monday"); e != api.OK || !same(m, l) {
		t.Errorf("%v, error %d, want %v", m, e, l)
	}
}

// TestSv1Open: Open is refused as that of layer 13 is, whatever the sectors; else it is a store.
func TestSv1Open(t *testing.T) {
	off := newDisk(t, 100)
	putOff(t, off)
	numbers := []int{api.MinInt, -8, -1, 0, 1, 7, 8, 31, 32, 33, 63, 64, 68, 69, 92, 99, 100, 101, 1 << 40, api.MaxInt}
	opens, arg, power := 0, 0, 0
	for _, d := range []*disk.Disk{nil, {}, newDisk(t, 1), newDisk(t, 31), newDisk(t, 32), newDisk(t, 100), off} {
		for _, from := range numbers {
			for _, to := range numbers {
				p, want := space.Open(d, from, to)
				s, e := snap.Open(d, from, to)
				if e != want || (s == nil) != (want != api.OK) || s.Free() != p.Pages() {
					t.Fatalf("Open(%d, %d): %v, error %d, want %d", from, to, s, e, want)
				}
				switch e {
				case api.OK:
					opens++
				case api.ErrArg:
					arg++
				case api.ErrOff:
					power++
				}
			}
		}
	}
	if opens < 20 || arg < 1000 || power < 20 {
		t.Errorf("%d opened, %d times ErrArg, %d times ErrOff", opens, arg, power)
	}
	_, e := snap.Open(nil, 0, 32)
	must(t, "Open of nil", e, api.ErrArg)
	_, e = snap.Open(off, 0, 31)
	must(t, "too few sectors, no power", e, api.ErrArg)
}

// TestSv1OpenNothing: of a disk that holds nothing, and of one with bytes that are nothing, the store is empty.
func TestSv1OpenNothing(t *testing.T) {
	for _, bytes := range []string{"\x00", "\xff", "a"} {
		s := opened(t, diskOf(t, strings.Repeat(bytes, 32*100)))
		is(t, fmt.Sprintf("all %q", bytes), s, model{})
		if s.Free() != 9 {
			t.Errorf("Free: %d", s.Free())
		}
		refusesLoad(t, "nothing", s, "a", api.ErrNone)
	}
}

// TestSv1OpenAgain: a store that is opened again has the ledgers that were saved, and not dropped; also beside another one on the same disk.
func TestSv1OpenAgain(t *testing.T) {
	d := newDisk(t, 4096)
	parts := [][2]int{{3, 1500}, {1500, 1532}, {1600, 4095}}
	models := make([]model, len(parts))
	all := ledgers(t)
	for k, p := range parts {
		models[k] = model{}
		s, e := snap.Open(d, p[0], p[1])
		must(t, "Open", e, api.OK)
		for what, l := range all {
			if e := s.Save(what[:min(len(what), 16)], l); e == api.OK {
				models[k][what[:min(len(what), 16)]] = l
			}
		}
		if name := models[k].names()[0]; k != 1 {
			drops(t, s, name)
			models[k] = models[k].without(name)
		}
	}
	if len(models[0]) < 6 || len(models[1]) != 1 {
		t.Fatal(len(models[0]), len(models[1]))
	}
	for range 2 {
		for k, p := range parts {
			s, e := snap.Open(d, p[0], p[1])
			must(t, "Open", e, api.OK)
			is(t, fmt.Sprint("part ", k), s, models[k])
		}
		must(t, "Crash", d.Crash(nil), api.OK)
	}
}

// TestSv1Name: a name has 1 to 16 bytes, of any kind; names that are alike but for noughts are not the same.
func TestSv1Name(t *testing.T) {
	d, s := storeOf(t, 200)
	l := full(t)
	for _, name := range []string{"", strings.Repeat("n", 17), strings.Repeat("\x00", 17), strings.Repeat("n", 1<<16)} {
		bytes := image(t, d)
		must(t, fmt.Sprintf("Save(%.20q)", name), s.Save(name, l), api.ErrArg)
		untouched(t, name, d, bytes)
		must(t, "Drop", s.Drop(name), api.ErrNone)
		refusesLoad(t, "no name", s, name, api.ErrNone)
		refusesFind(t, s, name, "stock", 0, text("a"), api.ErrNone)
	}
	m := model{}
	names := []string{"n", strings.Repeat("n", 16), strings.Repeat("n", 15), "\x00", "\x00\x00", strings.Repeat("\x00", 16), "n\x00", "n\x00\x00", "n\x01", "\xff", strings.Repeat("\xff", 16), "é", " ", "monday", "Monday", "monday "}
	for k, name := range names {
		one := api.Ledger{Ops: k}
		refusesLoad(t, "not yet", s, name, api.ErrNone)
		saves(t, s, name, one)
		m[name] = one
		is(t, fmt.Sprintf("with %q", name), s, m)
	}
	for _, name := range names {
		drops(t, s, name)
		m = m.without(name)
		is(t, fmt.Sprintf("without %q", name), s, m)
	}
}

// TestSv1Save: each kind of ledger is saved, by a name that is not there, and by one that is, in place of each other one; others stay.
func TestSv1Save(t *testing.T) {
	t.Parallel()
	all := ledgers(t)
	beside := received(t, 20, 3)
	for was, first := range all {
		d, s := storeOf(t, 300)
		saves(t, s, "beside", beside)
		saves(t, s, "it", first)
		is(t, was, s, model{"beside": beside, "it": first})
		finds(t, was, s, "it", first)
		for what, l := range all {
			saves(t, s, "it", l)
			want := model{"beside": beside, "it": l}
			is(t, what+" in place", s, want)
			if d.Waits() != 0 {
				t.Fatalf("%s: %d writes are not sure", what, d.Waits())
			}
			must(t, "Crash", d.Crash(nil), api.OK)
			is(t, what+" behind a crash", opened(t, d), want)
		}
		finds(t, "beside", s, "beside", beside)
	}
}

// rowsOf is a ledger with so many stocks without movements, so many holds that are over, and so many movements of one stock.
func rowsOf(stocks, holds, moves int) api.Ledger {
	var l api.Ledger
	for k := range stocks {
		l.Stocks = append(l.Stocks, api.Stock{Sku: fmt.Sprintf("%04d", k), Loc: "x"})
	}
	for k := range holds {
		l.Holds = append(l.Holds, api.Hold{Id: k + 1, Sku: "s", Loc: "x", Qty: 1, State: api.HoldUp})
	}
	for k := range moves {
		l.Moves = append(l.Moves, api.Move{Seq: k + 1, Sku: "0000", Loc: "x", Delta: 1, Kind: api.OpReceive})
	}
	if stocks > 0 {
		l.Stocks[0].OnHand = moves
	}
	return l
}

// TestSv1SaveMost: 2000 stocks, holds or movements may be saved, as far as there are pages, 2001 not.
func TestSv1SaveMost(t *testing.T) {
	t.Parallel()
	d, s := storeOf(t, 500)
	saves(t, s, "a", full(t))
	want := model{"a": full(t)}
	for _, l := range []api.Ledger{rowsOf(2001, 0, 0), rowsOf(0, 2001, 0), rowsOf(1, 0, 2001), rowsOf(2001, 2001, 2001), rowsOf(4096, 0, 0)} {
		bytes := image(t, d)
		must(t, "Save of 2001", s.Save("b", l), api.ErrArg)
		must(t, "Save of 2001 in place", s.Save("a", l), api.ErrArg)
		untouched(t, "refused", d, bytes)
	}
	is(t, "refused", s, want)
	bytes := image(t, d)
	must(t, "Save of 2000 of each", s.Save("b", rowsOf(2000, 2000, 2000)), api.ErrFull)
	untouched(t, "ErrFull", d, bytes)
	is(t, "ErrFull", s, want)
	drops(t, s, "a")
	most := rowsOf(2000, 0, 2)
	saves(t, s, "b", most)
	is(t, "2000 stocks", s, model{"b": most})
	for _, n := range []int{0, 1, 255, 256, 1999} {
		v := text(fmt.Sprintf("%04d", n))
		if rows, e := s.Find("b", "stock", 0, v); e != api.OK || len(rows) != 1 || rows[0][0] != v {
			t.Errorf("Find of %v: %v, error %d", v, rows, e)
		}
	}
	if rows, e := s.Find("b", "stock", 1, text("x")); e != api.OK || !sameRows(rows, tableOf(t, most, "stock").Rows()) {
		t.Errorf("%d rows, error %d", len(rows), e)
	}
	for _, l := range []api.Ledger{rowsOf(0, 1300, 0), rowsOf(1, 0, 1300)} {
		drops(t, s, "b")
		saves(t, s, "b", l)
		is(t, "many", s, model{"b": l})
	}
}

// mayNot are ledgers that may not be, each by something else.
func mayNot(t *testing.T) []api.Ledger {
	t.Helper()
	change := func(do func(l *api.Ledger)) api.Ledger {
		l := full(t)
		do(&l)
		return l
	}
	return []api.Ledger{
		{Ops: -1}, {Ops: api.MinInt},
		change(func(l *api.Ledger) { l.Stocks[0].OnHand++ }),
		change(func(l *api.Ledger) { l.Stocks[0].Held++ }),
		change(func(l *api.Ledger) { l.Stocks[0], l.Stocks[1] = l.Stocks[1], l.Stocks[0] }),
		change(func(l *api.Ledger) { l.Stocks = append(l.Stocks, api.Stock{Sku: "", Loc: "x"}) }),
		change(func(l *api.Ledger) { l.Stocks = append(l.Stocks, api.Stock{Sku: "z", Loc: strings.Repeat("l", 65)}) }),
		change(func(l *api.Ledger) { l.Holds[1].Id = 1 }),
		change(func(l *api.Ledger) { l.Holds[0].State = 3 }),
		change(func(l *api.Ledger) { l.Holds[0].Due = -1 }),
		change(func(l *api.Ledger) { l.Moves[1].Kind = api.OpHold }),
		change(func(l *api.Ledger) { l.Moves[1].Hold = 1 }),
		change(func(l *api.Ledger) { l.Moves = l.Moves[1:] }),
	}
}

// TestSv1SaveMayNot: a ledger that may not be is not saved, and nothing is another.
func TestSv1SaveMayNot(t *testing.T) {
	d, s := storeOf(t, 100)
	l := full(t)
	saves(t, s, "a", l)
	bytes := image(t, d)
	for k, bad := range mayNot(t) {
		for _, name := range []string{"a", "b", ""} {
			must(t, fmt.Sprintf("ledger %d, Save(%q)", k, name), s.Save(name, bad), api.ErrArg)
		}
		untouched(t, fmt.Sprint("ledger ", k), d, bytes)
	}
	is(t, "refused", s, model{"a": l})
}

// TestSv1SaveFull: with too few pages Save is ErrFull, has written nothing, and what was saved is as it was; with one more than the most that do not suffice it is saved.
func TestSv1SaveFull(t *testing.T) {
	t.Parallel()
	small, great := replayed(t, receive("s", "x", 5)), full(t)
	for what, ahead := range map[string]model{"nothing": {}, "another one": {"a": small}, "the same one": {"it": small}, "itself": {"it": great}, "both": {"a": great, "it": small}} {
		suffices := false
		for pages := 1; pages < 60; pages++ {
			d, s := storeOf(t, pages)
			if !saveAll(s, ahead) {
				continue
			}
			bytes, free := image(t, d), s.Free()
			e := s.Save("it", great)
			if e == api.OK {
				suffices = true
				is(t, what, s, ahead.with("it", great))
				continue
			}
			must(t, fmt.Sprintf("%s, %d pages: Save", what, pages), e, api.ErrFull)
			if suffices || s.Free() != free {
				t.Fatalf("%s, %d pages: Free %d, want %d; fewer pages suffice: %t", what, pages, s.Free(), free, suffices)
			}
			untouched(t, what, d, bytes)
			is(t, what, s, ahead)
			is(t, what, opened(t, d), ahead)
		}
		if !suffices {
			t.Errorf("%s: it is never saved", what)
		}
	}
}

// saveAll saves what a model has, by their names; false: that was refused.
func saveAll(s *snap.Store, m model) bool {
	for _, name := range m.names() {
		if s.Save(name, m[name]) != api.OK {
			return false
		}
	}
	return true
}

// TestSv1Load: Load of names that are there and that are not.
func TestSv1Load(t *testing.T) {
	_, s := storeOf(t, 100)
	refusesLoad(t, "none", s, "a", api.ErrNone)
	l := full(t)
	saves(t, s, "b", l)
	for _, name := range []string{"", "a", "b\x00", "\x00b", "B", "bb", "c", strings.Repeat("b", 17), "ledgers"} {
		refusesLoad(t, "not there", s, name, api.ErrNone)
	}
	drops(t, s, "b")
	refusesLoad(t, "dropped", s, "b", api.ErrNone)
}

// TestSv1Drop: each name is dropped, in each of some orders, down to none: it is not there any more, the others are, and behind the last one all pages are free.
func TestSv1Drop(t *testing.T) {
	t.Parallel()
	r := dice(99)
	for round := range 6 {
		d, s := storeOf(t, 400)
		m := model{}
		for k := range 3 + 8*round {
			name := fmt.Sprintf("%c%d", 'a'+k%5, k)
			m[name] = anyLedger(&r, r.below(12))
			saves(t, s, name, m[name])
		}
		is(t, "all", s, m)
		for len(m) > 0 {
			name := pick(&r, m.names()...)
			used := pagesOf(t, m[name])
			free := s.Free()
			drops(t, s, name)
			m = m.without(name)
			is(t, "without "+name, s, m)
			if s.Free() < free+used {
				t.Fatalf("%q had %d pages: %d are free, %d were", name, used, s.Free(), free)
			}
			if d.Waits() != 0 {
				t.Fatalf("%d writes are not sure", d.Waits())
			}
			must(t, "Drop again", s.Drop(name), api.ErrNone)
			must(t, "Drop of none", s.Drop("none"), api.ErrNone)
			s = opened(t, d)
			is(t, "opened again without "+name, s, m)
		}
		if s.Free() != 400 {
			t.Errorf("%d pages are free", s.Free())
		}
	}
}

// pagesOf is how many pages a ledger has, but for those of its name.
func pagesOf(t *testing.T, l api.Ledger) int {
	t.Helper()
	_, s := storeOf(t, 400)
	saves(t, s, "a", api.Ledger{})
	free := s.Free()
	saves(t, s, "b", l)
	return free - s.Free()
}

// TestSv1DropFull: Drop needs a page for each on the way to the name: with fewer it is ErrFull, and has written nothing.
func TestSv1DropFull(t *testing.T) {
	l := full(t)
	// The pages that the ledger, and one for its name, just have: none is left for the way, of one page.
	least := pagesOf(t, l) + 1
	for more := range 2 {
		d, s := storeOf(t, least+more)
		saves(t, s, "it", l)
		if s.Free() != more {
			t.Fatalf("%d pages are free, want %d", s.Free(), more)
		}
		dropsIf(t, d, s, model{"it": l}, "it", more == 1)
	}
	// More names than a page has room for: the way has two pages.
	for pages := 4; pages < 7; pages++ {
		d, s := storeOf(t, pages)
		m := model{}
		for s.Free() == pages || s.Free() > pages-3 {
			name := fmt.Sprintf("name %d", len(m))
			m[name] = api.Ledger{Ops: len(m)}
			saves(t, s, name, m[name])
		}
		if s.Free() != pages-3 {
			t.Fatalf("%d of %d pages are free", s.Free(), pages)
		}
		dropsIf(t, d, s, m, pick(new(dice), m.names()...), s.Free() >= 2)
	}
}

// dropsIf: Drop is OK, or ErrFull.
func dropsIf(t *testing.T, d *disk.Disk, s *snap.Store, m model, name string, ok bool) {
	t.Helper()
	bytes, free := image(t, d), s.Free()
	if ok {
		drops(t, s, name)
		is(t, "dropped", s, m.without(name))
		return
	}
	for range 2 {
		must(t, fmt.Sprintf("Drop with %d pages free", free), s.Drop(name), api.ErrFull)
		untouched(t, "ErrFull", d, bytes)
		is(t, "ErrFull", s, m)
		if s.Free() != free {
			t.Fatalf("%d pages are free, want %d", s.Free(), free)
		}
	}
}

// TestSv1Names: all names, rising byte by byte, whatever the order in which they were saved.
func TestSv1Names(t *testing.T) {
	_, s := storeOf(t, 300)
	if names, e := s.Names(); len(names) != 0 || e != api.OK {
		t.Errorf("%q, error %d", names, e)
	}
	r := dice(5)
	var want []string
	for range 90 {
		name := strings.Repeat(pick(&r, "a", "b", "\x00", "\xff", "Z", "é"), 1+r.below(8)) + pick(&r, "", "\x00", "z")
		saves(t, s, name[:min(len(name), 16)], api.Ledger{Ops: 1})
		want = append(want, name[:min(len(name), 16)])
		slices.Sort(want)
		want = slices.Compact(want)
		if names, e := s.Names(); e != api.OK || !slices.Equal(names, want) {
			t.Fatalf("%q, error %d, want %q", names, e, want)
		}
	}
	if len(want) < 40 {
		t.Errorf("only %d names", len(want))
	}
}

// TestSv1Free: Free is how many pages the space has that are not in use, ahead of and behind each call; those that ask, and those that are refused, change nothing.
func TestSv1Free(t *testing.T) {
	d, s := storeOf(t, 60)
	if s.Free() != 60 {
		t.Fatalf("%d of 60 pages are free", s.Free())
	}
	frees := func(what string) int {
		t.Helper()
		p := spaceOf(t, d)
		if free := s.Free(); free != p.Pages()-p.Used() || free != opened(t, d).Free() {
			t.Fatalf("%s: Free %d, want %d", what, free, p.Pages()-p.Used())
		}
		return s.Free()
	}
	one, two := replayed(t, receive("s", "x", 5)), full(t)
	last := frees("nothing")
	for k, l := range []api.Ledger{one, two} {
		saves(t, s, fmt.Sprint(k), l)
		now := frees("Save")
		if now >= last {
			t.Errorf("Save: %d are free, %d were", now, last)
		}
		last = now
	}
	s.Names()
	s.Load("0")
	s.Load("none")
	s.Find("1", "moves", 0, number(1))
	s.Check()
	must(t, "Save", s.Save("", one), api.ErrArg)
	must(t, "Save", s.Save("2", received(t, 900, 9)), api.ErrFull)
	must(t, "Drop", s.Drop("none"), api.ErrNone)
	if frees("asked") != last {
		t.Errorf("%d are free, %d were", s.Free(), last)
	}
	drops(t, s, "1")
	if frees("Drop") <= last {
		t.Errorf("Drop: %d are free, %d were", s.Free(), last)
	}
	drops(t, s, "0")
	if frees("none left") != 60 {
		t.Errorf("%d of 60 pages are free", s.Free())
	}
}

// TestSv1Anew: of two ledgers one is saved anew many times: the pages of the elder ones are free again.
func TestSv1Anew(t *testing.T) {
	t.Parallel()
	l, other := full(t), received(t, 12, 4)
	_, s := storeOf(t, 3*(pagesOf(t, l)+2)+pagesOf(t, other))
	saves(t, s, "other", other)
	alone := s.Free()
	var frees []int
	for k := range 300 {
		l.Ops = 100 + k
		saves(t, s, "it", l)
		frees = append(frees, s.Free())
		if k%20 == 0 {
			is(t, fmt.Sprint("time ", k), s, model{"it": l, "other": other})
		}
	}
	if len(slices.Compact(frees)) != 1 {
		t.Errorf("free were %d", slices.Compact(frees))
	}
	drops(t, s, "it")
	if s.Free() != alone {
		t.Errorf("%d are free, want %d", s.Free(), alone)
	}
}
