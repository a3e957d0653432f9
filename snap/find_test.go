package snap_test

import (
	"fmt"
	"slices"
	"strings"
	"testing"

	"quayside/api"
	"quayside/cow"
	"quayside/disk"
	"quayside/page"
	"quayside/snap"
	"quayside/space"
	"quayside/value"
)

// TestSv2Find: in each column of each table, of values that are there, that are not, of another kind, null among them, and such as may not be: the rows that layer 11 tells, by their keys.
func TestSv2Find(t *testing.T) {
	t.Parallel()
	_, s := storeOf(t, 400)
	for what, l := range ledgers(t) {
		saves(t, s, "beside", received(t, 9, 2))
		saves(t, s, "it", l)
		finds(t, what, s, "it", l)
	}
	l := full(t)
	saves(t, s, "it", l)
	for _, x := range []struct {
		table string
		col   int
		v     api.Value
		keys  []int
	}{
		{"holds", 5, api.Value{}, []int{2}}, {"holds", 4, text("up"), []int{2, 3}}, {"holds", 4, text("out"), []int{1}}, {"holds", 0, number(4), []int{4}},
		{"moves", 5, number(1), []int{4}}, {"moves", 4, text("receive"), []int{1, 2, 3}}, {"moves", 4, text("adjust"), []int{7, 8}}, {"moves", 3, number(-5), []int{5}}, {"moves", 5, api.Value{}, []int{1, 2, 3, 5, 6, 7, 8}},
		{"moves", 4, text("hold"), nil}, {"moves", 0, text("1"), nil}, {"holds", 5, number(0), nil},
	} {
		rows, e := s.Find("it", x.table, x.col, x.v)
		var keys []int
		for _, r := range rows {
			keys = append(keys, r[0].N)
		}
		if e != api.OK || !slices.Equal(keys, x.keys) {
			t.Errorf("Find(%q, %d, %v): %d, error %d, want %d", x.table, x.col, x.v, keys, e, x.keys)
		}
	}
	want := []api.Row{{text("a"), text("x"), number(0), number(0)}, {text("a"), text("y"), number(4), number(2)}, {text("a"), text("z"), number(5), number(0)}}
	if rows, e := s.Find("it", "stock", 0, text("a")); e != api.OK || !sameRows(rows, want) {
		t.Errorf("%v, error %d, want %v", rows, e, want)
	}
}

// TestSv2FindMany: of ledgers of many rows, of which many have one value, and many values have one row each.
func TestSv2FindMany(t *testing.T) {
	t.Parallel()
	r := dice(31)
	for _, l := range []api.Ledger{anyLedger(&r, 700), received(t, 400, 200), rowsOf(300, 300, 300)} {
		_, s := storeOf(t, 500)
		saves(t, s, "it", l)
		for _, of := range tableNames {
			x := tableOf(t, l, of)
			all := x.Rows()
			for col := range x.Columns() {
				for range min(len(all), 12) {
					row := pick(&r, all...)
					if rows, e := s.Find("it", of, col, row[col]); e != api.OK || !sameRows(rows, x.Same(col, row[col])) {
						t.Fatalf("Find(%q, %d, %v): %v, error %d", of, col, row[col], rows, e)
					}
				}
			}
		}
	}
}

// TestSv2FindNone: no ledger of that name, no table, no column: ErrNone.
func TestSv2FindNone(t *testing.T) {
	_, s := storeOf(t, 100)
	refusesFind(t, s, "it", "stock", 0, text("a"), api.ErrNone)
	saves(t, s, "it", full(t))
	saves(t, s, "empty", api.Ledger{})
	for _, name := range []string{"it", "empty"} {
		for of, columns := range map[string]int{"stock": 4, "holds": 6, "moves": 6} {
			for _, col := range []int{api.MinInt, -1 << 32, -1, columns, columns + 1, 16, 256, 1 << 32, api.MaxInt} {
				refusesFind(t, s, name, of, col, text("a"), api.ErrNone)
			}
			for col := range columns {
				if rows, e := s.Find(name, of, col, text("none")); e != api.OK || len(rows) != 0 {
					t.Errorf("Find(%q, %q, %d): %v, error %d", name, of, col, rows, e)
				}
			}
		}
		for _, of := range []string{"", "stocks", "Stock", "STOCK", "hold", "stock ", "moves\x00", "sku", strings.Repeat("s", 1<<16)} {
			for _, col := range []int{-1, 0, 3} {
				refusesFind(t, s, name, of, col, text("a"), api.ErrNone)
			}
		}
	}
	for _, name := range []string{"", "other", "it\x00", strings.Repeat("i", 17)} {
		refusesFind(t, s, name, "stock", 0, text("a"), api.ErrNone)
	}
	drops(t, s, "it")
	refusesFind(t, s, "it", "stock", 0, text("a"), api.ErrNone)
}

// TestSv2Check: a store that is as it must be, behind each call.
func TestSv2Check(t *testing.T) {
	_, s := storeOf(t, 300)
	must(t, "nothing", s.Check(), api.OK)
	for what, l := range ledgers(t) {
		saves(t, s, what[:min(len(what), 16)], l)
		must(t, what, s.Check(), api.OK)
	}
	names, _ := s.Names()
	for _, name := range names {
		drops(t, s, name)
		must(t, "without "+name, s.Check(), api.OK)
	}
}

// TestSv2CheckNeedless: pages in use that no ledger needs: ErrPage, beside ledgers, and without; all else is answered.
func TestSv2CheckNeedless(t *testing.T) {
	for _, m := range []model{{}, {"a": full(t)}, {"a": full(t), "b": {}}} {
		d, s := storeOf(t, 100)
		if !saveAll(s, m) {
			t.Fatal("Save")
		}
		p := spaceOf(t, d)
		n, e := p.Alloc()
		must(t, "Alloc", e, api.OK)
		must(t, "Commit", p.Commit(), api.OK)
		s = opened(t, d)
		must(t, "a page of noughts", s.Check(), api.ErrPage)
		p = spaceOf(t, d)
		must(t, "Release", p.Release(n), api.OK)
		must(t, "Commit", p.Commit(), api.OK)
		is(t, "released", opened(t, d), m)
		// A whole tree that nobody needs.
		x, _ := cow.Of(p, 0)
		must(t, "Put", x.Put("key", "value"), api.OK)
		must(t, "Commit", p.Commit(), api.OK)
		s = opened(t, d)
		must(t, "a tree", s.Check(), api.ErrPage)
		if names, e := s.Names(); e != api.OK || !slices.Equal(names, m.names()) {
			t.Errorf("Names: %q, error %d", names, e)
		}
	}
}

// TestSv2CheckMissing: a page that a ledger needs is not in use.
func TestSv2CheckMissing(t *testing.T) {
	first, s := storeOf(t, 100)
	saves(t, s, "a", full(t))
	saves(t, s, "b", received(t, 9, 3))
	bytes := image(t, first)
	missing := 0
	for n := 1; n <= 100; n++ {
		d := diskOf(t, bytes)
		p := spaceOf(t, d)
		if p.Release(n) != api.OK || p.Commit() != api.OK {
			continue
		}
		missing++
		must(t, fmt.Sprintf("the page %d", n), opened(t, d).Check(), api.ErrSpace)
	}
	if missing < 10 {
		t.Errorf("only %d pages", missing)
	}
}

// TestSv2CheckOther: a space in which others have pages is no store that is as it must be, but ledgers may be saved in it.
func TestSv2CheckOther(t *testing.T) {
	d := newDisk(t, 400)
	p := spaceOf(t, d)
	n, _ := p.Alloc()
	must(t, "Name", p.Name("other", n), api.OK)
	must(t, "Commit", p.Commit(), api.OK)
	s := opened(t, d)
	if names, e := s.Names(); len(names) != 0 || e != api.OK || s.Free() != p.Pages()-1 {
		t.Errorf("%q, error %d, %d are free", names, e, s.Free())
	}
	must(t, "Check", s.Check(), api.ErrPage)
	l := full(t)
	saves(t, s, "a", l)
	if m, e := s.Load("a"); e != api.OK || !same(l, m) {
		t.Errorf("%v, error %d", m, e)
	}
	drops(t, s, "a")
	if m, ok := spaceOf(t, d).Named("other"); m != n || !ok || s.Free() != p.Pages()-1 {
		t.Errorf("the page %d, %t, %d are free", m, ok, s.Free())
	}
}

// forged are the bytes of a page with one byte of a cell's value, or key, another, and a right sum; nothing, if there is no such page.
func forged(t *testing.T, bytes string, r *dice) string {
	t.Helper()
	p, e := page.Read(bytes)
	must(t, "Read", e, api.OK)
	k := r.below(p.Len())
	key, value := p.At(k)
	must(t, "Drop", p.Drop(key), api.OK)
	cell := []byte(key + value)
	cell[r.below(len(cell))] ^= 1 << r.below(8)
	if p.Put(string(cell[:len(key)]), string(cell[len(key):])) != api.OK {
		return ""
	}
	return p.Bytes()
}

// TestSv2CheckForged: of pages with other cells, and a right sum, no call panics, and Check is OK only of a store whose ledgers may be, and whose indexes agree with them.
func TestSv2CheckForged(t *testing.T) {
	t.Parallel()
	l, other := full(t), received(t, 9, 3)
	first, s := storeOf(t, 60)
	saves(t, s, "a", l)
	saves(t, s, "b", other)
	bytes := image(t, first)
	r := dice(271828)
	found, sound := 0, 0
	for range 4000 {
		d := diskOf(t, bytes)
		n := 1 + r.below(first.Size()/8-3)
		b, e := spaceOf(t, d).Read(n)
		if e != api.OK {
			continue
		}
		b = forged(t, b, &r)
		if b == "" {
			continue
		}
		spoil(t, d, n, b)
		s := opened(t, d)
		if s.Check() != api.OK {
			found++
			refusedRightly(t, "forged", s)
			continue
		}
		sound++
		names, e := s.Names()
		must(t, "Names", e, api.OK)
		for _, name := range names {
			l, e := s.Load(name)
			must(t, "Load", e, api.OK)
			finds(t, "forged", s, name, l)
		}
	}
	if found < 600 || sound < 5 {
		t.Errorf("%d were found, %d were sound", found, sound)
	}
}

// refusedRightly: of a store that is not as it must be each call answers, if not OK, ErrPage, ErrSpace or ErrNone; what is loaded may be.
func refusedRightly(t *testing.T, what string, s *snap.Store) {
	t.Helper()
	for _, c := range calls() {
		for _, name := range []string{"a", "b", "c"} {
			if e := c.do(s, name); e != api.OK && e != api.ErrPage && e != api.ErrSpace && e != api.ErrNone {
				t.Fatalf("%s: %s(%q): error %d", what, c.name, name, e)
			}
		}
	}
}

// spoil writes a page's bytes from outside.
func spoil(t *testing.T, d *disk.Disk, n int, text string) {
	t.Helper()
	for k := range 8 {
		must(t, "Write", d.Write(8*(n+2)+k, text[32*k:32*k+32]), api.OK)
	}
}

// treeOfNames is the tree of all names, as it lies in the space.
func treeOfNames(t *testing.T, p *space.Space) *cow.Tree {
	t.Helper()
	root, _ := p.Named(p.Names()[0])
	x, e := cow.Of(p, root)
	must(t, "Of", e, api.OK)
	return x
}

// byName is what stands by a name in the tree of names.
func byName(t *testing.T, r ...api.Value) string {
	t.Helper()
	s, e := value.Put(r)
	must(t, "Put", e, api.OK)
	return s
}

// TestSv2CheckSwapped: two names that have each other's ledger, two that have one and the same, a name that may not be, and what is no ledger's: told, where it is not as it must be.
func TestSv2CheckSwapped(t *testing.T) {
	first, s := storeOf(t, 60)
	// Both have as many pages.
	saves(t, s, "a", full(t))
	saves(t, s, "b", full(t))
	bytes := image(t, first)
	type cell = [2]string
	type cells = []cell
	for what, x := range map[string]struct {
		want api.Errno
		put  func(a, b cell) cells
	}{
		"as they were":             {api.OK, func(a, b cell) cells { return cells{a, b} }},
		"each other's":             {api.OK, func(a, b cell) cells { return cells{{a[0], b[1]}, {b[0], a[1]}} }},
		"one and the same":         {api.ErrPage, func(a, b cell) cells { return cells{{a[0], b[1]}, b} }},
		"one twice, under a third": {api.ErrPage, func(a, b cell) cells { return cells{a, b, {strings.Replace(b[0], "b", "c", 1), b[1]}} }},
		"one that is not there":    {api.ErrPage, func(a, b cell) cells { return cells{a} }},
		"a name of no bytes":       {api.ErrPage, func(a, b cell) cells { return cells{a, b, {"\x00" + a[0][1:], a[1]}} }},
		"a short key":              {api.ErrPage, func(a, b cell) cells { return cells{a, b, {"c", a[1]}} }},
		"a long key":               {api.ErrPage, func(a, b cell) cells { return cells{{a[0] + "\x00", a[1]}, b} }},
		"no value":                 {api.ErrPage, func(a, b cell) cells { return cells{a, {b[0], ""}} }},
		"a value that is none":     {api.ErrPage, func(a, b cell) cells { return cells{a, {b[0], "\x01\x00"}} }},
		"a row of one number":      {api.ErrPage, func(a, b cell) cells { return cells{a, {b[0], byName(t, number(1))}} }},
		"a row of texts":           {api.ErrPage, func(a, b cell) cells { return cells{a, {b[0], byName(t, text("1"), text("2"))}} }},
		"a root below 0":           {api.ErrPage, func(a, b cell) cells { return cells{a, {b[0], byName(t, number(-1), number(13))}} }},
		"a root beyond all pages":  {api.ErrSpace, func(a, b cell) cells { return cells{a, {b[0], byName(t, number(1<<40), number(13))}} }},
		"operations below 0":       {api.ErrPage, func(a, b cell) cells { return cells{a, {b[0], byName(t, number(0), number(-1))}} }},
	} {
		d := diskOf(t, bytes)
		p := spaceOf(t, d)
		names := treeOfNames(t, p)
		var was cells
		for key, value := range names.From("") {
			was = append(was, cell{key, value})
		}
		must(t, "Clear", names.Clear(), api.OK)
		for _, one := range x.put(was[0], was[1]) {
			must(t, "Put", names.Put(one[0], one[1]), api.OK)
		}
		must(t, "Name", p.Name(p.Names()[0], names.Root()), api.OK)
		must(t, "Commit", p.Commit(), api.OK)
		s := opened(t, d)
		must(t, what, s.Check(), x.want)
		refusedRightly(t, what, s)
	}
}
