package table_test

import (
	"cmp"
	"fmt"
	"slices"
	"strings"
	"testing"

	"quayside/api"
	"quayside/table"
)

var null = api.Value{}

func number(n int) api.Value { return api.Value{Kind: api.Int, N: n} }

func text(s string) api.Value { return api.Value{Kind: api.Text, S: s} }

func truth(n int) api.Value { return api.Value{Kind: api.Bool, N: n} }

func row(values ...api.Value) api.Row { return values }

func column(name string, kind int) api.Column { return api.Column{Name: name, Kind: kind} }

func orNull(name string, kind int) api.Column {
	return api.Column{Name: name, Kind: kind, Null: true}
}

// mayBe are values of each kind that may be, in their order, many of them alike but for their kind, or for one byte.
func mayBe() []api.Value {
	return []api.Value{
		null,
		number(api.MinInt), number(api.MinInt + 1), number(-256), number(-1), number(0), number(1), number(2), number(255), number(256), number(api.MaxInt),
		text(""), text("\x00"), text("\x00\x00"), text("\x00\xff"), text("\x01"), text("1"), text("A"), text("a"), text("a\x00"), text("a\x00b"), text("a\x01"), text("aa"), text(strings.Repeat("a", 63)), text(strings.Repeat("a", 64)), text("a\xff"), text("b"), text("\xff"), text("\xff\xff"),
		truth(0), truth(1),
	}
}

// mayNotBe are values of which each has one thing too many.
func mayNotBe() []api.Value {
	return []api.Value{
		{Kind: api.Null, N: 1}, {Kind: api.Null, N: -1}, {Kind: api.Null, S: "a"},
		{Kind: api.Int, S: "a"}, {Kind: api.Int, N: 1, S: "\x00"}, {Kind: api.Int, N: 255, S: "1"},
		{Kind: api.Text, N: 1}, {Kind: api.Text, N: -1, S: "a"}, text(strings.Repeat("a", 65)), text(strings.Repeat("a", 300)),
		truth(-1), truth(2), {Kind: api.Bool, S: "a"}, {Kind: api.Bool, N: 1, S: "true"},
		{Kind: -1}, {Kind: 4}, {Kind: 9, N: 1, S: "a"}, {Kind: 256}, {Kind: api.MinInt}, {Kind: api.MaxInt},
	}
}

func anyValue() []api.Value { return slices.Concat(mayBe(), mayNotBe()) }

// oddColumns are numbers of columns that no table here has.
func oddColumns(x table.Table) []int {
	n := len(x.Columns())
	return []int{-1, -2, n, n + 1, 16, 17, 1 << 32, -1 << 32, api.MinInt, api.MaxInt}
}

// dice are numbers that look like chance, the same ones in each run.
type dice uint64

func (x *dice) below(n int) int {
	*x ^= *x << 13
	*x ^= *x >> 7
	*x ^= *x << 17
	return int(uint64(*x) >> 1 % uint64(n))
}

// mixed is a list in another order, that looks like chance.
func mixed[T any](list []T, seed dice) []T {
	out := slices.Clone(list)
	for k := len(out) - 1; k > 0; k-- {
		j := seed.below(k + 1)
		out[k], out[j] = out[j], out[k]
	}
	return out
}

// order is which of two values stands first, as the document says it of layer 5.
func order(a, b api.Value) int {
	return cmp.Or(cmp.Compare(a.Kind, b.Kind), cmp.Compare(a.N, b.N), cmp.Compare(a.S, b.S))
}

// model is what a table has, as a plain list of rows by their keys.
type model struct {
	name    string
	columns []api.Column
	keys    int
	rows    []api.Row
}

// find is the place of the row of a key, or where it would stand.
func (m model) find(key api.Row) (int, bool) {
	return slices.BinarySearchFunc(m.rows, key, func(r, key api.Row) int {
		return slices.CompareFunc(r[:m.keys], key, order)
	})
}

func (m model) with(r api.Row) model {
	k, has := m.find(r[:m.keys])
	m.rows = slices.Clone(m.rows)
	if has {
		m.rows[k] = slices.Clone(r)
		return m
	}
	m.rows = slices.Insert(m.rows, k, slices.Clone(r))
	return m
}

func (m model) without(key api.Row) model {
	if k, has := m.find(key); has {
		m.rows = slices.Delete(slices.Clone(m.rows), k, k+1)
	}
	return m
}

// same and between are the rows, looked through.
func (m model) same(col int, v api.Value) []api.Row {
	var out []api.Row
	for _, r := range m.rows {
		if r[col] == v {
			out = append(out, r)
		}
	}
	return out
}

func (m model) between(col int, lo, hi api.Bound) []api.Row {
	var out []api.Row
	for _, r := range m.rows {
		low, high := order(lo.Val, r[col]), order(r[col], hi.Val)
		if r[col] == null || lo.Has && (low > 0 || low == 0 && lo.Open) || hi.Has && (high > 0 || high == 0 && hi.Open) {
			continue
		}
		out = append(out, r)
	}
	slices.SortStableFunc(out, func(a, b api.Row) int { return order(a[col], b[col]) })
	return out
}

func sameRows(a, b []api.Row) bool {
	return slices.EqualFunc(a, b, func(a, b api.Row) bool { return slices.Equal(a, b) })
}

func short(rows any) string { return fmt.Sprintf("%.600s", fmt.Sprint(rows)) }

func sameIs(t *testing.T, what string, x table.Table, m model, col int, v api.Value) {
	t.Helper()
	if got, want := x.Same(col, v), m.same(col, v); !sameRows(got, want) {
		t.Fatalf("%s: Same(%d, %v): %s, want %s", what, col, v, short(got), short(want))
	}
}

func betweenIs(t *testing.T, what string, x table.Table, m model, col int, lo, hi api.Bound) {
	t.Helper()
	if got, want := x.Between(col, lo, hi), m.between(col, lo, hi); !sameRows(got, want) {
		t.Fatalf("%s: Between(%d, %v, %v): %s, want %s", what, col, lo, hi, short(got), short(want))
	}
}

// bounds are all ends of ranges at some values: none, closed and open.
func bounds(values ...api.Value) []api.Bound {
	out := []api.Bound{{}}
	for _, v := range values {
		out = append(out, api.Bound{Has: true, Val: v}, api.Bound{Has: true, Open: true, Val: v})
	}
	return out
}

// looks: the table's name, columns and rows are the model's, and each row is found by its key, and by its values.
func looks(t *testing.T, what string, x table.Table, m model) {
	t.Helper()
	if x.Name() != m.name || !slices.Equal(x.Columns(), m.columns) {
		t.Fatalf("%s: %q, %v, want %q, %v", what, x.Name(), x.Columns(), m.name, m.columns)
	}
	if got := x.Rows(); !sameRows(got, m.rows) {
		t.Fatalf("%s: Rows: %s, want %s", what, short(got), short(m.rows))
	}
	for _, r := range m.rows {
		if got, ok := x.Get(r[:m.keys]); !ok || !slices.Equal(got, r) {
			t.Fatalf("%s: Get(%v): %v, %v, want %v", what, r[:m.keys], got, ok, r)
		}
	}
	for col := range m.columns {
		if len(m.rows) > 0 {
			r := m.rows[col%len(m.rows)]
			sameIs(t, what, x, m, col, r[col])
			betweenIs(t, what, x, m, col, api.Bound{Has: true, Val: r[col]}, api.Bound{})
			betweenIs(t, what, x, m, col, api.Bound{}, api.Bound{Has: true, Open: true, Val: r[col]})
		}
		sameIs(t, what, x, m, col, null)
		betweenIs(t, what, x, m, col, api.Bound{}, api.Bound{})
	}
}

// has: the table has what the model has, looked at in every way.
func has(t *testing.T, what string, x table.Table, m model) {
	t.Helper()
	looks(t, what, x, m)
	for col := range m.columns {
		values := slices.Clone(anyValue())
		for _, r := range m.rows {
			values = append(values, r[col])
		}
		for _, v := range values {
			sameIs(t, what, x, m, col, v)
		}
		ends := bounds(mixed(values, dice(len(values)+col))[:12]...)
		for _, lo := range ends {
			for _, hi := range ends {
				betweenIs(t, what, x, m, col, lo, hi)
			}
		}
	}
}

// made is a table and its model, with rows that come one by one.
func made(t *testing.T, columns []api.Column, keys int, rows ...api.Row) (table.Table, model) {
	t.Helper()
	x, e := table.New("t", columns, keys)
	if e != api.OK {
		t.Fatalf("New(%v, %d): %d", columns, keys, e)
	}
	m := model{name: "t", columns: slices.Clone(columns), keys: keys}
	for _, r := range rows {
		x, m = put(t, x, r), m.with(r)
	}
	return x, m
}

// put is the table with a row that must be taken.
func put(t *testing.T, x table.Table, r api.Row) table.Table {
	t.Helper()
	y, e := x.With(r)
	if e != api.OK {
		t.Fatalf("With(%v): %d", r, e)
	}
	return y
}

// refuses: a row is refused by an error, beside which there is no table.
func refuses(t *testing.T, what string, x table.Table, r api.Row, want api.Errno) {
	t.Helper()
	y, e := x.With(r)
	if e != want {
		t.Fatalf("%s: With(%v): %d, want %d", what, r, e, want)
	}
	isNone(t, what, y)
}

// isNone: it is the table that New did not give.
func isNone(t *testing.T, what string, x table.Table) {
	t.Helper()
	if x.Name() != "" || len(x.Columns()) != 0 || len(x.Rows()) != 0 {
		t.Fatalf("%s: there is a table %q, %v, %v", what, x.Name(), x.Columns(), x.Rows())
	}
	for _, r := range []api.Row{nil, {}, {null}, {number(1)}, {number(1), text("a")}} {
		if got, ok := x.Get(r); ok || len(got) != 0 {
			t.Fatalf("%s: Get(%v): %v, %v", what, r, got, ok)
		}
		if y, e := x.With(r); e != api.ErrArg || y.Name() != "" || len(y.Rows()) != 0 {
			t.Fatalf("%s: With(%v): %v, %d", what, r, y.Rows(), e)
		}
		if y := x.Without(r); y.Name() != "" || len(y.Columns()) != 0 || len(y.Rows()) != 0 {
			t.Fatalf("%s: Without(%v): %q, %v", what, r, y.Name(), y.Rows())
		}
	}
	for _, col := range append(oddColumns(x), 0, 1, 2) {
		if len(x.Same(col, null)) != 0 || len(x.Same(col, number(1))) != 0 || len(x.Between(col, api.Bound{}, api.Bound{})) != 0 {
			t.Fatalf("%s: rows by the column %d", what, col)
		}
	}
}

// four are columns of each kind, some of which may be null.
func four() []api.Column {
	return []api.Column{orNull("a", api.Int), column("b", api.Text), orNull("c", api.Bool), orNull("d", api.Text)}
}

// drawn is a row of these four columns, of which few are alike.
func (x *dice) drawn(some int) api.Row {
	a, d := number(x.below(some)-some/2), text(strings.Repeat("x", x.below(4))+strings.Repeat("\x00", x.below(3)))
	if x.below(6) == 0 {
		a = null
	}
	if x.below(4) == 0 {
		d = null
	}
	c := mayBe()[len(mayBe())-2:][x.below(2)]
	if x.below(4) == 0 {
		c = null
	}
	return row(a, text(strings.Repeat("k", x.below(3))+string([]byte{byte(x.below(1 + some/4))})), c, d)
}

// drawnBound is one at a value, mostly of those that a row has.
func (x *dice) drawnBound(values []api.Value) api.Bound {
	all := append(anyValue(), values...)
	b := api.Bound{Has: x.below(4) > 0, Open: x.below(2) == 0, Val: all[x.below(len(all))]}
	if len(values) > 0 && x.below(4) > 0 {
		b.Val = values[x.below(len(values))]
	}
	return b
}
