package table_test

import (
	"fmt"
	"slices"
	"testing"

	"quayside/api"
	"quayside/table"
)

// TestR1: every call ends without a panic, at odd arguments too.
func TestR1(t *testing.T) {
	defer func() {
		if r := recover(); r != nil {
			t.Error("panic:", r)
		}
	}()
	var none table.Table
	full, _ := made(t, four(), 2, row(number(1), text("a"), null, null), row(null, text(""), truth(1), text("d")))
	for _, x := range []table.Table{none, {}, full} {
		x.Name()
		x.Columns()
		x.Rows()
		for _, v := range append(anyValue(), api.Value{Kind: api.MinInt, N: api.MinInt, S: string(make([]byte, 1<<16))}) {
			for size := range 6 {
				r := slices.Repeat(row(v), size)
				x.With(r)
				x.Without(r).With(r)
				x.Get(r)
			}
			for _, col := range append(oddColumns(x), 0, 1, 2, 3) {
				x.Same(col, v)
				for _, b := range bounds(v) {
					x.Between(col, b, b)
					x.Between(col, api.Bound{}, b)
				}
			}
		}
		x.With(make(api.Row, 1<<16))
		x.Get(make(api.Row, 1<<16))
		x.Without(make(api.Row, 1<<16))
	}
	var set table.Set
	for _, l := range append(wrong(t), api.Ledger{}, some(t), api.Ledger{Ops: api.MinInt}, api.Ledger{Ops: api.MaxInt}) {
		set.Next(l)
		s, _ := table.Of(l)
		s.Next(l)
		s.Table("stock")
	}
	table.New("", nil, api.MinInt)
	table.New("t", make([]api.Column, 1<<16), api.MaxInt)
}

// TestR2: what is refused, or not there, comes with nothing beside it, and changes nothing that a later call could tell; the error is the one that is named first.
func TestR2(t *testing.T) {
	x, m := letters(t)
	for _, v := range anyValue() {
		for _, r := range []api.Row{{v}, {v, null}, {number(1), v}, {v, v, v}} {
			y, e := x.With(r)
			if e == api.OK {
				continue
			}
			if e != api.ErrArg {
				t.Fatalf("With(%v): %d", r, e)
			}
			isNone(t, fmt.Sprint("with ", r), y)
		}
		if got, ok := x.Get(row(v)); !ok && got != nil {
			t.Fatalf("Get(%v): %v", v, got)
		}
	}
	has(t, "behind what was refused", x, m)
	r := row(number(100), text("z"))
	has(t, "with one more", put(t, x, r), m.with(r))
}

// TestR3Arguments: what is handed in is not kept: its lists can be changed behind the call; nor is it changed, nor read beyond its end.
func TestR3Arguments(t *testing.T) {
	columns := append(make([]api.Column, 0, 10), four()...)
	x, e := table.New("t", columns[:3], 2)
	m := model{name: "t", columns: slices.Clone(columns[:3]), keys: 2}
	if e != api.OK || !slices.Equal(columns, four()) {
		t.Fatal(e, columns)
	}
	columns[0], columns[2] = column("z", api.Bool), api.Column{}
	r := append(make(api.Row, 0, 10), number(1), text("a"), truth(1), number(9))
	for k := range 20 {
		r[0] = number(k)
		was := slices.Clone(r)
		x, m = put(t, x, r[:3]), m.with(was[:3])
		if !slices.Equal(r, was) {
			t.Fatal(r)
		}
		r[0], r[1], r[2] = number(-5), text("b"), null
		looks(t, fmt.Sprint("behind row ", k), x, m)
		r[1], r[2] = text("a"), truth(k%2)
	}
	key := append(make(api.Row, 0, 10), number(3), text("a"), truth(1), null)
	was := slices.Clone(key)
	if _, ok := x.Get(key[:2]); !ok || len(x.Without(key[:2]).Rows()) != 19 || !slices.Equal(key, was) {
		t.Error(ok, key)
	}
	l := some(t)
	s := setOf(t, l)
	n := next(t, setOf(t, api.Ledger{}), l)
	clear(l.Stocks)
	clear(l.Holds)
	clear(l.Moves)
	setIs(t, "Of", s, some(t))
	setIs(t, "Next", n, some(t))
}

// spoil changes an answer's rows, and all that lies in their room, one after the other; each must be as it was till then.
func spoil(t *testing.T, what string, rows []api.Row, want []api.Row) {
	t.Helper()
	want = slices.Clone(want)
	for k := range rows {
		if !slices.Equal(rows[k], want[k]) {
			t.Fatalf("%s: row %d is %v, was %v", what, k, rows[k], want[k])
		}
		room := rows[k][:cap(rows[k])]
		for i := range room {
			room[i] = text("spoilt")
		}
	}
	clear(rows[:cap(rows)])
}

// TestR3Answers: an answer is new memory, of which no two rows share any: it can be changed, and nothing else is changed by it.
func TestR3Answers(t *testing.T) {
	x, m := letters(t)
	younger, n := put(t, x, row(number(50), text("b"))), m.with(row(number(50), text("b")))
	s := setOf(t, some(t))
	for range 2 {
		spoil(t, "Rows", x.Rows(), m.rows)
		for col := range 2 {
			for _, v := range []api.Value{null, text("b"), text("a"), number(3)} {
				spoil(t, "Same", x.Same(col, v), m.same(col, v))
				spoil(t, "Between", x.Between(col, api.Bound{Has: true, Val: v}, api.Bound{}), m.between(col, api.Bound{Has: true, Val: v}, api.Bound{}))
			}
		}
		for _, r := range m.rows {
			got, _ := x.Get(r[:1])
			spoil(t, "Get", []api.Row{got}, []api.Row{r})
		}
		columns := x.Columns()
		clear(columns[:cap(columns)])
		for _, w := range tablesOf(some(t)) {
			y := named(t, "some", s, w.name)
			spoil(t, w.name, y.Rows(), w.rows)
			columns := y.Columns()
			clear(columns[:cap(columns)])
		}
		has(t, "behind changed answers", x, m)
		has(t, "the younger one behind changed answers", younger, n)
		setIs(t, "behind changed answers", s, some(t))
		setIs(t, "another one", setOf(t, some(t)), some(t))
	}
}

// TestR3Lines: tables that come of one table share nothing that a later call changes: of each of them many come, in turns.
func TestR3Lines(t *testing.T) {
	d := dice(31337)
	x, m := made(t, four(), 1)
	for range 60 {
		r := d.drawn(40)
		x, m = put(t, x, r), m.with(r)
	}
	var tables []table.Table
	var models []model
	for range 40 {
		r, o := d.drawn(40), m.rows[d.below(len(m.rows))][:1]
		tables = append(tables, put(t, x, r), x.Without(o), put(t, x.Without(o), r))
		models = append(models, m.with(r), m.without(o), m.without(o).with(r))
	}
	for k := range tables {
		for range 10 {
			put(t, put(t, tables[k], d.drawn(40)), d.drawn(40)).Without(d.drawn(40)[:1])
		}
	}
	for k := range tables {
		looks(t, fmt.Sprint("table ", k), tables[k], models[k])
	}
	has(t, "the one of which they came", x, m)
}

// TestR4: the same rows lead to tables that answer the same, whatever order they came in, what went between, and what is done to others beside them.
func TestR4(t *testing.T) {
	d := dice(2718281828)
	_, m := made(t, four(), 2)
	for range 80 {
		m = m.with(d.drawn(40))
	}
	var other table.Table
	for seed := range 12 {
		x, _ := made(t, four(), 2)
		other, _ = made(t, four(), 2)
		for _, r := range mixed(m.rows, dice(seed+1)) {
			// What comes and goes again, or is put twice, is not to be seen.
			passing := row(number(1000+seed), text("gone"), null, null)
			x = put(t, put(t, x, passing), row(r[0], r[1], null, text("first")))
			x = put(t, x, r).Without(passing[:2])
			other = put(t, put(t, other, d.drawn(40)), passing)
		}
		has(t, fmt.Sprint("order ", seed), x, m)
		has(t, fmt.Sprint("order ", seed, ", asked again"), x, m)
	}
	a, b := setOf(t, some(t)), setOf(t, crowded("z", 30))
	alike(t, "sets", next(t, b, some(t)), a)
	alike(t, "sets", next(t, next(t, a, crowded("y", 9)), crowded("z", 30)), b)
}
