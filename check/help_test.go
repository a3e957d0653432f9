package check_test

import (
	"fmt"
	"testing"

	"quayside/api"
	"quayside/check"
	"quayside/parse"
)

// dice are numbers that look like any, the same ones each time.
type dice uint64

func (x *dice) below(n int) int {
	*x ^= *x << 13
	*x ^= *x >> 7
	*x ^= *x << 17
	return int(uint64(*x) >> 20 % uint64(n))
}

func number(n int) api.Expr {
	return api.Expr{Kind: api.ExLit, Val: api.Value{Kind: api.Int, N: n}}
}

func text(s string) api.Expr {
	return api.Expr{Kind: api.ExLit, Val: api.Value{Kind: api.Text, S: s}}
}

func truth(n int) api.Expr {
	return api.Expr{Kind: api.ExLit, Val: api.Value{Kind: api.Bool, N: n}}
}

func null() api.Expr { return api.Expr{Kind: api.ExLit} }

// column is one as it is checked.
func column(n int) api.Expr { return api.Expr{Kind: api.ExCol, Col: n} }

// named is a column as it is asked.
func named(table, name string) api.Expr {
	return api.Expr{Kind: api.ExCol, Table: table, Name: name}
}

func unary(op int, a api.Expr) api.Expr {
	return api.Expr{Kind: api.ExUnary, Op: op, Args: []api.Expr{a}}
}

func binary(a api.Expr, op int, b api.Expr) api.Expr {
	return api.Expr{Kind: api.ExBinary, Op: op, Args: []api.Expr{a, b}}
}

func call(op int, args ...api.Expr) api.Expr {
	kind := api.ExCall
	if op <= api.DoMax {
		kind = api.ExAgg
	}
	return api.Expr{Kind: kind, Op: op, Args: args}
}

// other is an expression of a kind that has arguments alone.
func other(kind int, down bool, args ...api.Expr) api.Expr {
	return api.Expr{Kind: kind, Down: down, Args: args}
}

// over is one with a sub-query, as it is checked.
func over(kind int, down bool, n int, args ...api.Expr) api.Expr {
	return api.Expr{Kind: kind, Down: down, Col: n, Args: args}
}

// asks is a query of one select, without a limit.
func asks(s api.Select) api.Query { return api.Query{Selects: []api.Select{s}, Limit: -1} }

func is(name string, kind int, null bool) api.Column {
	return api.Column{Name: name, Kind: kind, Null: null}
}

// shown is anything as text: lists that are empty are all alike.
func shown(x any) string { return fmt.Sprintf("%+v", x) }

// some are tables with columns of all kinds, and names that are there twice. The first one of a name counts.
func some() []api.Schema {
	return []api.Schema{
		{Name: "t", Columns: []api.Column{is("a", api.Int, false), is("b", api.Text, false), is("c", api.Bool, false), is("d", api.Int, true)}},
		{Name: "u", Columns: []api.Column{is("a", api.Int, false), is("e", api.Text, true), is("f", api.Bool, true), is("n", api.Null, true)}},
		{Name: "t", Columns: []api.Column{is("z", api.Int, false)}},
		{Name: "v", Columns: []api.Column{is("g", api.Text, false), is("twice", api.Int, false), is("twice", api.Text, false)}},
		{Name: "T", Columns: []api.Column{is("A", api.Text, false)}},
		{Name: "bare"},
	}
}

func parsed(t *testing.T, s string) api.Query {
	t.Helper()
	q, at, e := parse.Query(s)
	if e != api.OK {
		t.Fatalf("%s: error %d at %d of layer 17", s, e, at)
	}
	return q
}

// core is what a query of some is, that is right.
func core(t *testing.T, s string) api.Core {
	t.Helper()
	c, at, e := check.Query(parsed(t, s), some())
	if e != api.OK || at != 0 {
		t.Fatalf("%s: error %d at %d", s, e, at)
	}
	return c
}

// part is what a query of one select is, that is right.
func part(t *testing.T, s string) api.Part {
	t.Helper()
	c := core(t, s)
	if len(c.Parts) != 1 {
		t.Fatalf("%s: %d parts", s, len(c.Parts))
	}
	return c.Parts[0]
}

// wrong tells that a query of some is wrong there, first.
func wrong(t *testing.T, s string, at int, e api.Errno) {
	t.Helper()
	c, gotAt, got := check.Query(parsed(t, s), some())
	if got != e || gotAt != at || shown(c) != shown(api.Core{}) {
		t.Errorf("%s: error %d at %d, %.200s; want %d at %d, and nothing", s, got, gotAt, shown(c), e, at)
	}
}

// same tells that two things are one, as they are shown.
func same(t *testing.T, what string, got, want any) {
	t.Helper()
	if shown(got) != shown(want) {
		t.Errorf("%.300s:\n%.900s\nwant\n%.900s", what, shown(got), shown(want))
	}
}

// columnsAre tells what the columns of a query of some are.
func columnsAre(t *testing.T, s string, want ...api.Column) {
	t.Helper()
	same(t, s, core(t, s).Columns, want)
}
