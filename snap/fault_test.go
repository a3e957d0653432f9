package snap_test

import (
	"fmt"
	"slices"
	"strings"
	"testing"

	"quayside/api"
	"quayside/snap"
)

// spoilt are bytes in place of those of a page: no page, another byte, noughts.
func spoilt(b string) map[string]string {
	return map[string]string{
		"noughts":           strings.Repeat("\x00", 256),
		"another byte":      b[:100] + string([]byte{b[100] ^ 4}) + b[101:],
		"another last byte": b[:255] + string([]byte{b[255] ^ 1}),
		"another kind":      "\x03" + b[1:],
		"torn":              b[:32] + strings.Repeat("\xff", 224),
	}
}

// right: a call answers as if nothing were spoilt, or ErrPage, or ErrSpace; what it asks is not looked at.
func right(t *testing.T, what string, e api.Errno) bool {
	t.Helper()
	if e != api.OK && e != api.ErrPage && e != api.ErrSpace {
		t.Fatalf("%s: error %d", what, e)
	}
	return e == api.OK
}

// answersRight: each call that asks answers what is so, or ErrPage, or ErrSpace; whether one was refused.
func answersRight(t *testing.T, what string, s *snap.Store, m model) bool {
	t.Helper()
	refused := false
	names, e := s.Names()
	if right(t, what, e) && !slices.Equal(names, m.names()) || e != api.OK && len(names) != 0 {
		t.Fatalf("%s: Names: %q, error %d", what, names, e)
	}
	for name, want := range m {
		l, e := s.Load(name)
		if !right(t, what, e) {
			want = api.Ledger{}
			refused = true
		}
		if !same(l, want) {
			t.Fatalf("%s: Load(%q): %v, error %d", what, name, l, e)
		}
		for _, of := range tableNames {
			x := tableOf(t, m[name], of)
			for col := range x.Columns() {
				rows := x.Rows()
				for _, r := range append(rows[:min(len(rows), 3)], make(api.Row, 6)) {
					rows, e := s.Find(name, of, col, r[col])
					if right(t, what, e) && !sameRows(rows, x.Same(col, r[col])) || e != api.OK && len(rows) != 0 {
						t.Fatalf("%s: Find(%q, %q, %d, %v): %v, error %d", what, name, of, col, r[col], rows, e)
					}
				}
			}
		}
	}
	return refused || e != api.OK
}

// TestSv2Spoilt: a page in use that was spoilt from outside: Check, and each call that needs it, is ErrPage or ErrSpace, what is answered is right, and what is refused has written nothing; opened anew it is the same.
func TestSv2Spoilt(t *testing.T) {
	t.Parallel()
	m := model{"a": full(t), "b": received(t, 12, 3), "empty": {Ops: 3}}
	for k := range 9 {
		m[fmt.Sprint("name ", k)] = api.Ledger{Ops: k}
	}
	first, s := storeOf(t, 90)
	if !saveAll(s, m) {
		t.Fatal("Save")
	}
	bytes, p := image(t, first), spaceOf(t, first)
	pages, refusals := 0, 0
	for n := 1; n <= p.Pages(); n++ {
		b, e := p.Read(n)
		inUse := e == api.OK
		switch {
		case inUse:
			pages++
		case n%20 == 0:
			b = strings.Repeat("\x00", 256)
		default:
			continue
		}
		for kind, spoils := range spoilt(b) {
			what := fmt.Sprintf("the page %d, %s", n, kind)
			d := diskOf(t, bytes)
			s := opened(t, d)
			spoil(t, d, n, spoils)
			must(t, "Flush", d.Flush(), api.OK)
			for _, s := range []*snap.Store{s, opened(t, d)} {
				if right(t, what, s.Check()) == inUse {
					t.Fatalf("%s: it is in use: %t, Check is OK: %t", what, inUse, !inUse)
				}
				if answersRight(t, what, s, m) {
					refusals++
				}
			}
			if kind == "noughts" || kind == "another byte" {
				changesRight(t, what, image(t, d), m, inUse)
			}
		}
	}
	if pages < 15 || refusals < pages {
		t.Errorf("%d pages, %d refusals", pages, refusals)
	}
}

// changesRight: Save and Drop of each name of a store of which a page is spoilt are done, or refused by ErrPage or ErrSpace, and have written nothing then.
func changesRight(t *testing.T, what, bytes string, m model, inUse bool) {
	t.Helper()
	for _, name := range []string{"a", "b", "empty", "name 4", "new"} {
		for _, c := range calls()[4:] {
			d := diskOf(t, bytes)
			s := opened(t, d)
			want := m.with(name, api.Ledger{Ops: 5})
			if c.name == "Drop" {
				want = m.without(name)
			}
			e := c.do(s, name)
			if _, has := m[name]; !has && c.name == "Drop" && e == api.ErrNone {
				continue
			}
			if !right(t, what+", "+c.name, e) {
				untouched(t, what+", "+c.name, d, bytes)
				answersRight(t, what, s, m)
			} else if !inUse {
				is(t, what, s, want)
			} else {
				answersRight(t, what, s, want)
			}
		}
	}
}

// TestSv2SpoiltAll: all pages that are in use are spoilt: each call is ErrPage.
func TestSv2SpoiltAll(t *testing.T) {
	first, s := storeOf(t, 90)
	saves(t, s, "a", full(t))
	bytes := image(t, first)
	for _, c := range calls() {
		d := diskOf(t, bytes)
		s := opened(t, d)
		for n := 1; n <= 90; n++ {
			spoil(t, d, n, strings.Repeat("x", 256))
		}
		must(t, "Flush", d.Flush(), api.OK)
		spoilt := image(t, d)
		for range 2 {
			must(t, c.name, c.do(s, "a"), api.ErrPage)
			must(t, c.name+" of a new name", c.do(s, "b"), api.ErrPage)
			untouched(t, c.name, d, spoilt)
			s = opened(t, d)
		}
		must(t, "no name", s.Save("", api.Ledger{}), api.ErrArg)
		refusesFind(t, s, "a", "none", 0, api.Value{}, api.ErrNone)
		refusesFind(t, s, "a", "stock", 4, api.Value{}, api.ErrNone)
	}
}

// TestSv2SpoiltHeads: where what tells which pages are in use was spoilt since it was opened, Save, Drop and Check are ErrPage, and have written nothing.
func TestSv2SpoiltHeads(t *testing.T) {
	first, s := storeOf(t, 60)
	l := full(t)
	saves(t, s, "a", l)
	saves(t, s, "b", l)
	bytes := image(t, first)
	refused := 0
	for at := range 24 {
		for _, c := range calls()[3:] {
			d := diskOf(t, bytes)
			s := opened(t, d)
			must(t, "Write", d.Write(at, strings.Repeat("x", 32)), api.OK)
			must(t, "Flush", d.Flush(), api.OK)
			spoilt := image(t, d)
			if e := c.do(s, "b"); e != api.OK {
				must(t, fmt.Sprintf("the sector %d, %s", at, c.name), e, api.ErrPage)
				untouched(t, c.name, d, spoilt)
				refused++
			}
			if m, e := s.Load("a"); e != api.OK || !same(m, l) {
				t.Fatalf("the sector %d, %s: Load: error %d", at, c.name, e)
			}
		}
	}
	if refused < 9 {
		t.Errorf("only %d were refused", refused)
	}
}

// TestSv2Stale: a store beside which another one of the same sectors was changed does not write over that.
func TestSv2Stale(t *testing.T) {
	d, s := storeOf(t, 60)
	saves(t, s, "a", full(t))
	other := opened(t, d)
	saves(t, other, "b", full(t))
	for _, c := range calls()[3:] {
		must(t, c.name, c.do(s, "a"), api.ErrPage)
	}
	is(t, "the other one", other, model{"a": full(t), "b": full(t)})
}

// TestSv1Off: if the power is off, each call is ErrOff, but where an error that is named ahead of it is known.
func TestSv1Off(t *testing.T) {
	for _, m := range []model{{}, {"a": full(t)}} {
		d, s := storeOf(t, 60)
		if !saveAll(s, m) {
			t.Fatal("Save")
		}
		free := s.Free()
		putOff(t, d)
		for _, c := range calls() {
			want := api.ErrOff
			if len(m) == 0 && (c.name == "Load" || c.name == "Find" || c.name == "Drop") {
				want = api.ErrNone
			}
			must(t, c.name, c.do(s, "a"), want)
		}
		refusesNames(t, "no power", s, api.ErrOff)
		must(t, "no name, no power", s.Save("", full(t)), api.ErrArg)
		must(t, "a ledger that may not be, no power", s.Save("a", api.Ledger{Ops: -1}), api.ErrArg)
		must(t, "2001, no power", s.Save("a", rowsOf(2001, 0, 0)), api.ErrArg)
		refusesFind(t, s, "a", "none", 0, api.Value{}, api.ErrNone)
		refusesFind(t, s, "a", "stock", -1, api.Value{}, api.ErrNone)
		refusesLoad(t, "no name, no power", s, "", api.ErrNone)
		must(t, "no name, no power", s.Drop(""), api.ErrNone)
		if s.Free() != free {
			t.Errorf("%d are free, want %d", s.Free(), free)
		}
		must(t, "Crash", d.Crash(nil), api.OK)
		is(t, "on again", opened(t, d), m)
	}
}

// TestSv1OffMidst: the power goes off in the midst of a Save and of a Drop: ErrOff, and so is all that is asked then.
func TestSv1OffMidst(t *testing.T) {
	for _, c := range calls()[4:] {
		d, s := storeOf(t, 60)
		saves(t, s, "a", full(t))
		free := s.Free()
		must(t, "Fuse", d.Fuse(3), api.OK)
		must(t, c.name, c.do(s, "a"), api.ErrOff)
		for _, c := range calls() {
			must(t, c.name, c.do(s, "a"), api.ErrOff)
		}
		if s.Free() != free {
			t.Errorf("%s: %d are free, want %d", c.name, s.Free(), free)
		}
		must(t, "Crash", d.Crash([]int{32, 7}), api.OK)
		is(t, c.name, opened(t, d), model{"a": full(t)})
	}
}

// TestSv1FullAhead: ErrFull is named ahead of ErrOff: it is told though the power would not suffice, and takes nothing of the fuse.
func TestSv1FullAhead(t *testing.T) {
	d, s := storeOf(t, 20)
	saves(t, s, "a", full(t))
	bytes := image(t, d)
	must(t, "Fuse", d.Fuse(1), api.OK)
	must(t, "Save", s.Save("b", received(t, 200, 5)), api.ErrFull)
	if d.Off() {
		t.Fatal("the power is off")
	}
	untouched(t, "ErrFull", d, bytes)
	must(t, "Flush", d.Flush(), api.OK)
	must(t, "Flush", d.Flush(), api.ErrOff)
}
