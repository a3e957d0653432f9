package check_test

import (
	"strings"
	"testing"

	"quayside/api"
	"quayside/check"
	"quayside/parse"
	"quayside/table"
)

// exprIs tells what an expression of some columns is.
func exprIs(t *testing.T, s string, columns []api.Column, want api.Expr, kind int, null bool) {
	t.Helper()
	x, at, e := parse.Expr(s)
	if e != api.OK {
		t.Fatalf("%s: error %d at %d of layer 17", s, e, at)
	}
	got, what, at, e := check.Expr(x, columns)
	if e != api.OK || at != 0 || what != (api.Column{Kind: kind, Null: null}) {
		t.Errorf("%s: %+v, error %d at %d; want %d, %v", s, what, e, at, kind, null)
	}
	same(t, s, got, want)
}

// TestCk3Expr: an expression of a row of columns, and what it is.
func TestCk3Expr(t *testing.T) {
	l := some()[0].Columns
	exprIs(t, "a", l, column(0), api.Int, false)
	exprIs(t, "d + a", l, binary(column(3), api.DoAdd, column(0)), api.Int, true)
	exprIs(t, "b not in ('x', null)", l, other(api.ExIn, true, column(1), text("x"), null()), api.Bool, true)
	exprIs(t, "case when c and true then b end", l, other(api.ExCase, false, binary(column(2), api.DoAnd, truth(1)), column(1), null()), api.Text, true)
	exprIs(t, "null", nil, null(), api.Null, true)
	exprIs(t, "'x'", nil, text("x"), api.Text, false)
	// It need not be a truth, and ANDs stay.
	exprIs(t, "c and (c and c)", l, binary(column(2), api.DoAnd, binary(column(2), api.DoAnd, column(2))), api.Bool, false)
	two := []api.Column{is("x", api.Int, false), is("y", api.Text, true), is("x", api.Text, false), is("X", api.Bool, false), is("n", api.Null, true)}
	exprIs(t, "y", two, column(1), api.Text, true)
	exprIs(t, "\"X\" or n", two, binary(column(3), api.DoOr, column(4)), api.Bool, true)
}

// TestCk3Wrong: where an expression is wrong, and why.
func TestCk3Wrong(t *testing.T) {
	columns := []api.Column{is("x", api.Int, false), is("y", api.Text, true), is("x", api.Text, false), is("z", api.Bool, false)}
	for e, list := range map[api.Errno][]string{
		api.ErrName: {
			"^a", "^Y", "^x", "^t.y", "y || ^x", "^a + b", "(1 + 2) * ^a",
			// Sub-queries, behind their arguments; what is in them is not looked at.
			"(^select 1)", "^y in (select 1)", "^exists (select none)", "^a in (select 1)", "^1 in (select 1, 2)", "1 + (^select 'x')", "not ^exists (select none from none)", "^z in (select *)",
			"coalesce(^a, count(*))", "sum(^a)", "sum((^select 1))", "case when z then 1 else ^count end",
		},
		api.ErrGroup: {"^count(*)", "^sum(1)", "1 + ^max(y)", "^min(z)", "sum(^count(*))", "^sum(y)", "^count(*) + a", "not ^max('x')"},
		api.ErrType:  {"^y + 1", "^not y", "not ^1 + 'x'", "(^y and z) in (select 1)", "sum(^- y)", "z and (^y = 1)"},
	} {
		for _, s := range list {
			ahead, behind, _ := strings.Cut(s, "^")
			x, _, bad := parse.Expr(ahead + behind)
			if bad != api.OK {
				t.Fatalf("%s: error %d of layer 17", s, bad)
			}
			got, what, at, why := check.Expr(x, columns)
			if at != len(ahead) || why != e || what != (api.Column{}) || shown(got) != shown(api.Expr{}) {
				t.Errorf("%s: %+v, %+v, error %d at %d; want %d", s, got, what, why, at, e)
			}
		}
	}
}

// TestCk3LikeItems: an expression is what it is as an item of a query of one table, if it is no aggregate, and has no sub-query.
func TestCk3LikeItems(t *testing.T) {
	x := dice(3)
	right := 0
	for n := range 5000 {
		m := &maker{dice: &x, left: 30, odd: 20 + 200*(n%2)}
		var of []string
		for range some()[0].Columns {
			of = append(of, "")
		}
		m.row = asked(of, some()[0].Columns)
		e := m.expr(x.below(4), 4)
		if asksSub(e) || hasAggregate(e) {
			continue
		}
		c, wantAt, want := check.Query(asks(api.Select{Items: []api.Item{{Expr: e}}, From: []api.Source{{Table: "t"}}}), some())
		got, what, at, why := check.Expr(e, some()[0].Columns)
		if at != wantAt || why != want {
			t.Fatalf("%s: error %d at %d; as an item %d at %d", shown(e), why, at, want, wantAt)
		}
		if want == api.OK {
			right++
			same(t, shown(e), got, c.Parts[0].Items[0])
			c.Columns[0].Name = ""
			same(t, shown(e), what, c.Columns[0])
		}
	}
	if right < 1000 {
		t.Error("only", right, "are right")
	}
}

// TestCk3Tables: those of layer 11, as it has them.
func TestCk3Tables(t *testing.T) {
	same(t, "Tables", check.Tables(), []api.Schema{
		{Name: "stock", Columns: []api.Column{is("sku", api.Text, false), is("loc", api.Text, false), is("on_hand", api.Int, false), is("held", api.Int, false)}},
		{Name: "holds", Columns: []api.Column{is("id", api.Int, false), is("sku", api.Text, false), is("loc", api.Text, false), is("qty", api.Int, false), is("state", api.Text, false), is("due", api.Int, true)}},
		{Name: "moves", Columns: []api.Column{is("seq", api.Int, false), is("sku", api.Text, false), is("loc", api.Text, false), is("delta", api.Int, false), is("kind", api.Text, false), is("hold", api.Int, true)}},
	})
	set, _ := table.Of(api.Ledger{})
	for _, s := range check.Tables() {
		if x, ok := set.Table(s.Name); !ok || x.Name() != s.Name || shown(x.Columns()) != shown(s.Columns) {
			t.Errorf("%s: %v, %v", s.Name, x.Columns(), ok)
		}
	}
}
