package table_test

import (
	"fmt"
	"slices"
	"testing"

	"quayside/api"
	"quayside/table"
)

// TestTb3RowsOneKey writes out the order of keys of one column, of each kind, whatever order the rows came in.
func TestTb3RowsOneKey(t *testing.T) {
	for _, kind := range []int{api.Int, api.Text, api.Bool} {
		// As the list stands, so do the values.
		var want []api.Row
		for k, v := range mayBe() {
			if v.Kind == kind || v == null {
				want = append(want, row(v, number(k%3)))
			}
		}
		for seed := range 20 {
			x, m := made(t, []api.Column{orNull("k", kind), column("n", api.Int)}, 1, mixed(want, dice(seed*31+7))...)
			if got := x.Rows(); !sameRows(got, want) {
				t.Fatalf("kind %d, order %d: %s, want %s", kind, seed, short(got), short(want))
			}
			looks(t, fmt.Sprint("kind ", kind, ", order ", seed), x, m)
		}
	}
}

// TestTb3RowsManyKeys writes out the order of keys of several columns: the first that is not the same tells.
func TestTb3RowsManyKeys(t *testing.T) {
	var want []api.Row
	var texts []api.Value
	for _, v := range mayBe() {
		if v.Kind == api.Text {
			texts = append(texts, v)
		}
	}
	for _, a := range texts {
		for _, b := range append(row(null), texts...) {
			want = append(want, row(a, b))
		}
	}
	columns := []api.Column{column("a", api.Text), orNull("b", api.Text)}
	for seed := range 3 {
		x, _ := made(t, columns, 2, mixed(want, dice(seed*31+7))...)
		if got := x.Rows(); !sameRows(got, want) {
			t.Fatalf("order %d: %s, want %s", seed, short(got), short(want))
		}
		for _, v := range texts {
			both := x.Same(1, v)
			if len(both) != len(texts) || !slices.IsSortedFunc(both, func(a, b api.Row) int { return order(a[0], b[0]) }) {
				t.Fatalf("order %d: Same(1, %v): %s", seed, v, short(both))
			}
		}
	}
	three := []api.Column{orNull("a", api.Bool), orNull("b", api.Int), column("c", api.Text), column("d", api.Int)}
	want = []api.Row{
		row(null, null, text(""), number(9)),
		row(null, null, text("a"), number(8)),
		row(null, number(-1), text(""), number(7)),
		row(null, number(1), text(""), number(6)),
		row(truth(0), null, text("z"), number(5)),
		row(truth(0), number(-3), text("z"), number(4)),
		row(truth(0), number(-2), text("a"), number(3)),
		row(truth(1), number(-9), text("b"), number(2)),
		row(truth(1), number(-9), text("c"), number(1)),
	}
	for seed := range 20 {
		x, m := made(t, three, 3, mixed(want, dice(seed*31+7))...)
		if got := x.Rows(); !sameRows(got, want) {
			t.Fatalf("order %d: %s, want %s", seed, short(got), short(want))
		}
		has(t, fmt.Sprint("order ", seed), x, m)
	}
}

// letters is a table whose column v has some values more than once, and null, in no order of the key.
func letters(t *testing.T) (table.Table, model) {
	return made(t, []api.Column{column("id", api.Int), orNull("v", api.Text)}, 1,
		row(number(6), text("b")), row(number(1), text("d")), row(number(4), null), row(number(2), text("b")),
		row(number(5), text("a")), row(number(3), text("c")), row(number(7), null), row(number(0), text("b")))
}

// ids are the first values, which are the keys.
func ids(rows []api.Row) []int {
	var out []int
	for _, r := range rows {
		out = append(out, r[0].N)
	}
	return out
}

// TestTb3Same writes out which rows have a value, by their keys.
func TestTb3Same(t *testing.T) {
	x, m := letters(t)
	for _, w := range []struct {
		col  int
		v    api.Value
		want []int
	}{
		{1, text("b"), []int{0, 2, 6}}, {1, text("a"), []int{5}}, {1, text("d"), []int{1}}, {1, null, []int{4, 7}},
		{1, text("e"), nil}, {1, text(""), nil}, {1, text("B"), nil}, {1, text("b "), nil}, {1, number(0), nil}, {1, truth(0), nil},
		{0, number(3), []int{3}}, {0, number(0), []int{0}}, {0, number(8), nil}, {0, null, nil}, {0, text("3"), nil}, {0, truth(1), nil},
		{0, api.Value{Kind: api.Int, N: 3, S: "a"}, nil}, {1, api.Value{Kind: api.Text, N: 1, S: "b"}, nil}, {1, api.Value{N: 1}, nil}, {1, api.Value{S: "b"}, nil}, {1, api.Value{Kind: 9}, nil},
	} {
		if got := ids(x.Same(w.col, w.v)); !slices.Equal(got, w.want) {
			t.Errorf("Same(%d, %v): %v, want %v", w.col, w.v, got, w.want)
		}
	}
	has(t, "letters", x, m)
}

// TestTb3Between writes out which rows have a value between two, by that value, then by their keys.
func TestTb3Between(t *testing.T) {
	x, m := letters(t)
	none := api.Bound{}
	closed := func(v api.Value) api.Bound { return api.Bound{Has: true, Val: v} }
	open := func(v api.Value) api.Bound { return api.Bound{Has: true, Open: true, Val: v} }
	a, b, c, d := text("a"), text("b"), text("c"), text("d")
	for _, w := range []struct {
		col    int
		lo, hi api.Bound
		want   []int
	}{
		{1, none, none, []int{5, 0, 2, 6, 3, 1}},
		{1, closed(b), none, []int{0, 2, 6, 3, 1}}, {1, open(b), none, []int{3, 1}},
		{1, none, closed(b), []int{5, 0, 2, 6}}, {1, none, open(b), []int{5}},
		{1, closed(b), closed(c), []int{0, 2, 6, 3}}, {1, open(b), closed(c), []int{3}}, {1, closed(b), open(c), []int{0, 2, 6}}, {1, open(b), open(c), nil},
		{1, closed(b), closed(b), []int{0, 2, 6}}, {1, open(b), closed(b), nil}, {1, closed(b), open(b), nil}, {1, open(b), open(b), nil},
		{1, closed(c), closed(b), nil}, {1, closed(d), closed(a), nil}, {1, open(d), none, nil}, {1, none, open(a), nil},
		{1, closed(a), closed(d), []int{5, 0, 2, 6, 3, 1}}, {1, open(a), open(d), []int{0, 2, 6, 3}},
		{1, closed(text("bb")), none, []int{3, 1}}, {1, none, closed(text("bb")), []int{5, 0, 2, 6}}, {1, closed(text("")), none, []int{5, 0, 2, 6, 3, 1}}, {1, none, closed(text("")), nil},
		// Values of another kind stand ahead of all texts, or behind them; null is never in it.
		{1, closed(null), none, []int{5, 0, 2, 6, 3, 1}}, {1, open(null), none, []int{5, 0, 2, 6, 3, 1}}, {1, none, closed(null), nil}, {1, none, open(null), nil}, {1, closed(null), closed(null), nil}, {1, closed(null), closed(b), []int{5, 0, 2, 6}},
		{1, closed(number(api.MaxInt)), none, []int{5, 0, 2, 6, 3, 1}}, {1, none, closed(number(api.MaxInt)), nil}, {1, none, closed(truth(0)), []int{5, 0, 2, 6, 3, 1}}, {1, closed(truth(0)), none, nil}, {1, closed(number(9)), open(truth(0)), []int{5, 0, 2, 6, 3, 1}},
		// Values that may not be have their place too.
		{1, closed(api.Value{Kind: -1}), closed(api.Value{Kind: 9}), []int{5, 0, 2, 6, 3, 1}}, {1, closed(api.Value{Kind: 9}), none, nil}, {1, none, closed(api.Value{Kind: -1}), nil},
		{1, closed(api.Value{Kind: api.Text, N: 1}), none, nil}, {1, none, open(api.Value{Kind: api.Text, N: 1}), []int{5, 0, 2, 6, 3, 1}}, {1, closed(api.Value{Kind: api.Text, N: -1, S: "z"}), none, []int{5, 0, 2, 6, 3, 1}}, {1, closed(api.Value{Kind: api.Null, N: -1}), none, []int{5, 0, 2, 6, 3, 1}},
		// Where there is no bound, what else it says does not matter.
		{1, api.Bound{Val: c, Open: true}, api.Bound{Val: a, Open: true}, []int{5, 0, 2, 6, 3, 1}}, {1, api.Bound{Val: truth(1)}, closed(b), []int{5, 0, 2, 6}}, {1, closed(c), api.Bound{Val: null}, []int{3, 1}},
		{0, none, none, []int{0, 1, 2, 3, 4, 5, 6, 7}}, {0, closed(number(2)), open(number(5)), []int{2, 3, 4}}, {0, open(number(-1)), closed(number(0)), []int{0}}, {0, open(number(7)), none, nil}, {0, closed(text("")), none, nil},
		{0, open(api.Value{Kind: api.Int, N: 2, S: "a"}), open(api.Value{Kind: api.Int, N: 4, S: "a"}), []int{3, 4}},
	} {
		if got := ids(x.Between(w.col, w.lo, w.hi)); !slices.Equal(got, w.want) {
			t.Errorf("Between(%d, %v, %v): %v, want %v", w.col, w.lo, w.hi, got, w.want)
		}
	}
	has(t, "letters", x, m)
}

// TestTb3BetweenAll: with all values as bounds, those that may be and those that may not, over columns of each kind that have them all.
func TestTb3BetweenAll(t *testing.T) {
	ends := bounds(anyValue()...)
	for _, kind := range []int{api.Int, api.Text, api.Bool} {
		for _, keys := range []int{1, 2} {
			x, m := made(t, []api.Column{orNull("v", kind), column("n", api.Int), orNull("w", kind)}, keys)
			for k, v := range mixed(mayBe(), dice(kind)) {
				if v.Kind == kind || v == null {
					for n := range 2 {
						r := row(v, number(n), []api.Value{v, null}[(k+n)%2])
						x, m = put(t, x, r), m.with(r)
					}
				}
			}
			for _, lo := range ends {
				for _, hi := range ends {
					betweenIs(t, fmt.Sprint("kind ", kind), x, m, 0, lo, hi)
					betweenIs(t, fmt.Sprint("kind ", kind), x, m, 2, lo, hi)
				}
			}
		}
	}
}

// TestTb3NoColumn: by a column that there is not, nothing is told.
func TestTb3NoColumn(t *testing.T) {
	x, _ := letters(t)
	wide, _ := made(t, many(16), 1)
	for _, y := range []table.Table{x, wide} {
		for _, col := range oddColumns(y) {
			for _, v := range anyValue() {
				if got := y.Same(col, v); len(got) != 0 {
					t.Fatalf("Same(%d, %v): %v", col, v, got)
				}
				for _, b := range bounds(v) {
					if len(y.Between(col, b, api.Bound{})) != 0 || len(y.Between(col, api.Bound{}, b)) != 0 {
						t.Fatalf("Between(%d, %v): rows", col, b)
					}
				}
			}
		}
	}
}

// TestTb3Many: tables of more rows than a tree's node, or an index's first buckets, take, with values that are all the same, all others, or few.
func TestTb3Many(t *testing.T) {
	columns := []api.Column{column("id", api.Int), column("one", api.Text), column("own", api.Int), orNull("few", api.Int)}
	var rows []api.Row
	for k := range 150 {
		few := number(k % 5)
		if k%7 == 0 {
			few = null
		}
		rows = append(rows, row(number(k*3), text("all"), number(-k), few))
	}
	for seed := range 3 {
		x, m := made(t, columns, 1, mixed(rows, dice(seed+9))...)
		has(t, fmt.Sprint("order ", seed), x, m)
		for _, k := range []int{0, 1, 70, 148, 149} {
			y, n := x.Without(rows[k][:1]), m.without(rows[k][:1])
			has(t, fmt.Sprint("order ", seed, ", without ", k), y, n)
		}
	}
}

// TestTb5LongRun: a long run of rows that come, come anew and go, held against a plain list, with elder tables looked at again.
func TestTb5LongRun(t *testing.T) {
	type kept struct {
		x    table.Table
		m    model
		step int
	}
	for keys := 1; keys <= 4; keys++ {
		d := dice(88172645463325252 + 977*keys)
		x, m := made(t, four(), keys)
		now := kept{x, m, 0}
		elder := []kept{now}
		for step := range 2500 {
			// Tides, so that tables grow to some hundred rows and come back to few.
			r, tide := d.drawn(40), 1+8*(step/500%2)
			if d.below(10) < tide && len(now.m.rows) > 0 {
				key := r[:keys]
				if d.below(4) > 0 {
					key = now.m.rows[d.below(len(now.m.rows))][:keys]
				}
				now = kept{now.x.Without(key), now.m.without(key), step}
			} else {
				now = kept{put(t, now.x, r), now.m.with(r), step}
			}
			what := fmt.Sprint(keys, " keys, step ", step)
			asked(t, what, &d, now.x, now.m)
			if step%50 == 0 {
				looks(t, what, now.x, now.m)
				elder = append(elder, now)
			}
			// An elder table may go on too: the tables of one part.
			if d.below(200) == 0 {
				now = elder[d.below(len(elder))]
			}
		}
		for _, o := range elder {
			looks(t, fmt.Sprint(keys, " keys, the table of step ", o.step, " at the end"), o.x, o.m)
		}
	}
}

// asked holds some Same and Between, drawn by dice, against the rows looked through.
func asked(t *testing.T, what string, d *dice, x table.Table, m model) {
	t.Helper()
	var values []api.Value
	col := d.below(len(m.columns))
	for range min(len(m.rows), 4) {
		values = append(values, m.rows[d.below(len(m.rows))][col])
	}
	for _, v := range append(values, anyValue()[d.below(len(anyValue()))]) {
		sameIs(t, what, x, m, col, v)
	}
	betweenIs(t, what, x, m, col, d.drawnBound(values), d.drawnBound(values))
}

// TestTb5Looked: Same and Between are what Rows are, looked through: here Rows are asked themselves.
func TestTb5Looked(t *testing.T) {
	d := dice(4711)
	x, m := made(t, four(), 2)
	for range 150 {
		r := d.drawn(30)
		x, m = put(t, x, r), m.with(r)
	}
	looked := model{name: m.name, columns: m.columns, keys: m.keys, rows: x.Rows()}
	for range 3000 {
		asked(t, "looked through", &d, x, looked)
	}
	has(t, "looked through", x, looked)
}
