package table_test

import (
	"fmt"
	"slices"
	"testing"

	"quayside/api"
	"quayside/table"
)

// many are some columns.
func many(n int) []api.Column {
	var out []api.Column
	for k := range n {
		out = append(out, api.Column{Name: fmt.Sprint("c", k), Kind: 1 + k%3, Null: k%2 == 1})
	}
	return out
}

// TestTb1New: what New gives has that name, those columns and no rows.
func TestTb1New(t *testing.T) {
	for _, name := range []string{"t", "stock", " ", "\x00", "a name that is longer than any other name of this document, whatever it is"} {
		for _, n := range []int{1, 2, 3, 15, 16} {
			for _, keys := range []int{1, (n + 1) / 2, n} {
				columns := many(n)
				x, e := table.New(name, columns, keys)
				if e != api.OK {
					t.Fatalf("New of %d columns, %d keys: %d", n, keys, e)
				}
				has(t, fmt.Sprint(n, " columns, ", keys, " keys"), x, model{name: name, columns: columns, keys: keys})
			}
		}
	}
}

// TestTb1Kinds: a column is of Int, Text or Bool, and may be null or not.
func TestTb1Kinds(t *testing.T) {
	for _, kind := range []int{api.Int, api.Text, api.Bool} {
		for _, may := range []bool{true, false} {
			columns := []api.Column{{Name: "a", Kind: kind, Null: may}, {Name: "b", Kind: kind, Null: !may}}
			if x, e := table.New("t", columns, 1); e != api.OK || !slices.Equal(x.Columns(), columns) {
				t.Errorf("kind %d: %v, %d", kind, x.Columns(), e)
			}
		}
	}
	for _, kind := range []int{api.Null, -1, 4, 5, 257, 1 << 32, api.MinInt, api.MaxInt} {
		for _, may := range []bool{true, false} {
			c := api.Column{Name: "x", Kind: kind, Null: may}
			newFails(t, "t", []api.Column{c}, 1)
			newFails(t, "t", append(many(15), c), 1)
			newFails(t, "t", append([]api.Column{c}, many(3)...), 2)
		}
	}
}

func newFails(t *testing.T, name string, columns []api.Column, keys int) {
	t.Helper()
	what := fmt.Sprintf("New(%q, %v, %d)", name, columns, keys)
	x, e := table.New(name, columns, keys)
	if e != api.ErrArg {
		t.Fatalf("%s: %d", what, e)
	}
	isNone(t, what, x)
}

// TestTb1Errors: each of the other things that New refuses.
func TestTb1Errors(t *testing.T) {
	newFails(t, "", many(1), 1)
	newFails(t, "", many(16), 16)
	for _, keys := range []int{-1, 0, 1, 2} {
		newFails(t, "t", nil, keys)
		newFails(t, "t", []api.Column{}, keys)
	}
	for _, n := range []int{17, 18, 32, 100, 256} {
		for _, keys := range []int{0, 1, 16, n} {
			newFails(t, "t", many(n), keys)
		}
	}
	for _, n := range []int{1, 2, 16} {
		for _, keys := range []int{0, -1, n + 1, n + 2, -n, 17, 1 << 32, api.MinInt, api.MaxInt} {
			newFails(t, "t", many(n), keys)
		}
		for k := range n {
			unnamed := many(n)
			unnamed[k].Name = ""
			newFails(t, "t", unnamed, 1)
			for other := range n {
				twice := many(n)
				twice[k].Name = twice[other].Name
				if other != k {
					newFails(t, "t", twice, 1)
				}
			}
		}
	}
	newFails(t, "", nil, 0)
}

// TestTb1Names: names are the same only byte by byte.
func TestTb1Names(t *testing.T) {
	columns := []api.Column{column("a", api.Int), column("A", api.Int), column("a ", api.Int), column(" a", api.Int), column("a\x00", api.Int), column("aa", api.Int)}
	if _, e := table.New("a", columns, 2); e != api.OK {
		t.Error(e)
	}
}

// TestTb2Fits: of each kind of column each value is taken or refused, in the key and behind it.
func TestTb2Fits(t *testing.T) {
	for _, kind := range []int{api.Int, api.Text, api.Bool} {
		for _, may := range []bool{true, false} {
			c := api.Column{Name: "v", Kind: kind, Null: may}
			inKey, atFirst := made(t, []api.Column{c, column("n", api.Int)}, 1)
			behind, asFirst := made(t, []api.Column{column("n", api.Int), c}, 1)
			for k, v := range anyValue() {
				what := fmt.Sprint("kind ", kind, ", null ", may)
				a, b := row(v, number(k)), row(number(k), v)
				if slices.Contains(mayBe(), v) && (v.Kind == kind || v == null && may) {
					inKey, atFirst = put(t, inKey, a), atFirst.with(a)
					behind, asFirst = put(t, behind, b), asFirst.with(b)
					continue
				}
				refuses(t, what, inKey, a, api.ErrArg)
				refuses(t, what, behind, b, api.ErrArg)
			}
			if len(atFirst.rows) < 2 || len(asFirst.rows) < 2 {
				t.Fatal("too few were taken")
			}
			has(t, fmt.Sprint("kind ", kind, " in the key"), inKey, atFirst)
			has(t, fmt.Sprint("kind ", kind, " behind the key"), behind, asFirst)
		}
	}
}

// TestTb2Width: a row has as many values as there are columns.
func TestTb2Width(t *testing.T) {
	for _, n := range []int{1, 2, 3, 16} {
		var columns []api.Column
		var r api.Row
		for k := range n {
			columns = append(columns, orNull(fmt.Sprint("c", k), api.Int))
			r = append(r, number(k))
		}
		for keys := 1; keys <= n; keys++ {
			x, m := made(t, columns, keys, r)
			for size := range n {
				refuses(t, fmt.Sprint(n, " columns"), x, r[:size:size], api.ErrArg)
				// What lies behind the list's end does not count.
				refuses(t, fmt.Sprint(n, " columns"), x, r[:size], api.ErrArg)
			}
			refuses(t, fmt.Sprint(n, " columns"), x, nil, api.ErrArg)
			for _, more := range []api.Row{{null}, {number(1)}, {null, null}, make(api.Row, 300)} {
				refuses(t, fmt.Sprint(n, " columns"), x, slices.Concat(r, more), api.ErrArg)
			}
			looks(t, fmt.Sprint(n, " columns, behind what was refused"), x, m)
		}
	}
}

// TestTb2With: a row of a new key comes to the others, one of a key that is there stands in its place; the table itself stays.
func TestTb2With(t *testing.T) {
	for keys := 1; keys <= 4; keys++ {
		d := dice(1000 + keys)
		x, m := made(t, four(), keys)
		for n := range 40 {
			for range 4 {
				r := d.drawn(20)
				what := fmt.Sprint(keys, " keys, ", n, " rows, with ", r)
				y := put(t, x, r)
				looks(t, what, y, m.with(r))
				looks(t, what+", the elder one", x, m)
				looks(t, what+", twice", put(t, y, r), m.with(r))
			}
			r := d.drawn(20)
			x, m = put(t, x, r), m.with(r)
		}
		has(t, fmt.Sprint(keys, " keys, all"), x, m)
	}
}

// TestTb2InPlace: each value behind the key is the new row's, and the old row is found by none of its own any more.
func TestTb2InPlace(t *testing.T) {
	columns := []api.Column{column("id", api.Int), orNull("n", api.Int), orNull("s", api.Text), orNull("b", api.Bool)}
	x, m := made(t, columns, 1,
		row(number(1), number(5), text("a"), truth(1)),
		row(number(2), number(5), text("b"), truth(0)),
		row(number(3), null, null, null))
	for _, r := range []api.Row{
		row(number(2), number(6), text("b"), truth(0)),
		row(number(2), number(5), text("a"), truth(0)),
		row(number(2), null, null, null),
		row(number(2), number(5), text("b"), truth(0)),
		row(number(3), number(7), text("c"), truth(1)),
		row(number(1), null, text("a"), truth(1)),
	} {
		y, n := put(t, x, r), m.with(r)
		if len(n.rows) != 3 {
			t.Fatal("the model has a row more")
		}
		has(t, fmt.Sprint("with ", r), y, n)
		has(t, fmt.Sprint("behind with ", r), x, m)
		x, m = y, n
	}
	if got := x.Same(1, number(6)); len(got) != 0 {
		t.Error(got)
	}
}

// TestTb2Full: a table of MaxRows rows takes no new key, but a row of a key that is there, and a new key again where one went.
func TestTb2Full(t *testing.T) {
	columns := []api.Column{column("a", api.Int), column("b", api.Int), column("c", api.Text)}
	at := func(k int) api.Row { return row(number(k/64), number(k%64), text(fmt.Sprint("t", k%7))) }
	x, _ := made(t, columns, 2)
	for k := range api.MaxRows - 1 {
		x = put(t, x, at(k))
	}
	almost := x
	x = put(t, x, at(api.MaxRows-1))
	if n := len(x.Rows()); n != 4096 {
		t.Fatal(n, "rows")
	}
	for _, k := range []int{-1, api.MaxRows, api.MaxRows + 1, 1 << 20} {
		refuses(t, "full", x, at(k), api.ErrFull)
	}
	// What does not fit is told ahead.
	refuses(t, "full", x, row(number(-1), number(0), null), api.ErrArg)
	refuses(t, "full", x, row(number(-1), number(0)), api.ErrArg)
	for _, k := range []int{0, 1, 2000, api.MaxRows - 1} {
		r := at(k)
		r[2] = text("new")
		y := put(t, x, r)
		if got := y.Same(2, text("new")); len(y.Rows()) != api.MaxRows || !sameRows(got, []api.Row{r}) {
			t.Fatalf("in place of %d: %d rows, %v", k, len(y.Rows()), got)
		}
		refuses(t, "full, with one in place", y, at(-1), api.ErrFull)
		z := put(t, x.Without(at(k)[:2]), at(-1))
		if _, ok := z.Get(at(k)[:2]); ok || len(z.Rows()) != api.MaxRows {
			t.Fatalf("another one for %d: %d rows", k, len(z.Rows()))
		}
		refuses(t, "full, with another one", z, at(k), api.ErrFull)
	}
	if len(x.Rows()) != api.MaxRows || len(almost.Rows()) != api.MaxRows-1 || len(x.Same(2, text("new"))) != 0 {
		t.Error("the elder ones are not as they were")
	}
	if n := len(put(t, almost, at(-1)).Rows()); n != api.MaxRows {
		t.Error(n, "rows")
	}
}

// TestTb2Without: each row goes by its key, and comes anew; the table itself stays.
func TestTb2Without(t *testing.T) {
	for keys := 1; keys <= 4; keys++ {
		d := dice(77 + keys)
		x, m := made(t, four(), keys)
		for range 60 {
			r := d.drawn(16)
			x, m = put(t, x, r), m.with(r)
		}
		for _, r := range m.rows {
			what, key := fmt.Sprint(keys, " keys, without ", r), r[:keys]
			y, n := x.Without(key), m.without(key)
			looks(t, what, y, n)
			looks(t, what+", twice", y.Without(key), n)
			looks(t, what+", and with it anew", put(t, y, r), m)
			if got, ok := y.Get(key); ok || len(got) != 0 || len(n.rows) != len(m.rows)-1 {
				t.Fatalf("%s: Get: %v, %v", what, got, ok)
			}
			sameIs(t, what, y, n, keys-1, r[keys-1])
		}
		looks(t, fmt.Sprint(keys, " keys, behind all"), x, m)
		for _, r := range mixed(m.rows, 5) {
			x, m = x.Without(r[:keys]), m.without(r[:keys])
		}
		has(t, fmt.Sprint(keys, " keys, without all"), x, m)
		if len(m.rows) != 0 || len(x.Columns()) != 4 {
			t.Error("rows are left, or columns are not")
		}
		r := d.drawn(16)
		has(t, "with one anew", put(t, x, r), m.with(r))
	}
}

// TestTb2NoKey: by a key that is not there, or is none, nothing is got, and nothing goes.
func TestTb2NoKey(t *testing.T) {
	one, m := made(t, []api.Column{orNull("a", api.Int), orNull("b", api.Int)}, 1, row(number(1), number(2)), row(number(0), null), row(null, number(1)))
	two, n := made(t, []api.Column{column("a", api.Text), column("b", api.Text), column("c", api.Int)}, 2, row(text("a"), text("b"), number(1)), row(text(""), text(""), number(2)), row(text("a\x00"), text(""), number(3)))
	keys := []api.Row{
		nil, {}, {number(2)}, {number(-1)}, {number(1), number(2)}, {number(1), null}, {null, null}, {null, number(1)},
		{text("1")}, {text("")}, {truth(0)}, {truth(1)}, {text("a")}, {text("b"), text("a")}, {text("a"), text("b"), number(1)},
		{text("a"), text("b"), null}, {text("a")}, {text(""), text("a")}, {text("a"), text("\x00")}, {text("a"), text("")}, {text("ab"), text("")}, {text(""), text("ab")}, {text("a"), null}, {null, text("b")},
		{text(""), text(""), number(2)}, {text("a\x00")}, {number(1), number(2), number(3)}, make(api.Row, 1000),
		{{Kind: api.Int, N: 1, S: "a"}}, {{Kind: api.Null, N: 1}}, {{Kind: api.Null, S: "a"}}, {{Kind: api.Int, S: "\x00"}}, {{Kind: 9, N: 1}}, {{Kind: -1}},
		{{Kind: api.Text, S: "a", N: 1}, text("b")}, {text("a"), {Kind: api.Text, S: "b", N: -1}},
	}
	for _, key := range keys {
		for k, x := range []table.Table{one, two} {
			if got, ok := x.Get(key); ok || len(got) != 0 {
				t.Errorf("Get(%v): %v, %v", key, got, ok)
			}
			looks(t, fmt.Sprint("without ", key), x.Without(key), []model{m, n}[k])
		}
	}
	// Beside these a key of null is one.
	if got, ok := one.Get(row(null)); !ok || !slices.Equal(got, row(null, number(1))) {
		t.Error(got, ok)
	}
	looks(t, "without null", one.Without(row(null)), m.without(row(null)))
}

// TestTb2Get: a row is got whole, by a key of some columns, or of all.
func TestTb2Get(t *testing.T) {
	for keys := 1; keys <= 3; keys++ {
		columns := []api.Column{column("a", api.Int), column("b", api.Text), column("c", api.Bool)}
		r, other := row(number(-5), text("x"), truth(1)), row(number(6), text(""), truth(0))
		x, _ := made(t, columns, keys, r, other)
		for _, want := range []api.Row{r, other} {
			if got, ok := x.Get(want[:keys]); !ok || !slices.Equal(got, want) {
				t.Errorf("%d keys: %v, %v", keys, got, ok)
			}
		}
		if got, ok := x.Get(slices.Concat(r[:keys-1], row(null))); ok || len(got) != 0 {
			t.Errorf("%d keys, another key: %v, %v", keys, got, ok)
		}
	}
}

// TestZero: what a table answers that New did not give.
func TestZero(t *testing.T) {
	var x table.Table
	isNone(t, "the zero value", x)
	isNone(t, "a literal", table.Table{})
	isNone(t, "without a key", x.Without(nil).Without(row(null)))
	for _, r := range []api.Row{nil, {}, {null}, {number(1)}, make(api.Row, 16)} {
		refuses(t, "the zero value", x, r, api.ErrArg)
	}
}
