package print_test

import (
	"testing"

	"quayside/api"
	"quayside/parse"
	"quayside/print"
)

func number(n int) api.Expr {
	return api.Expr{Kind: api.ExLit, Val: api.Value{Kind: api.Int, N: n}}
}

func text(s string) api.Expr {
	return api.Expr{Kind: api.ExLit, Val: api.Value{Kind: api.Text, S: s}}
}

func truth(n int) api.Expr {
	return api.Expr{Kind: api.ExLit, Val: api.Value{Kind: api.Bool, N: n}}
}

func null() api.Expr { return api.Expr{Kind: api.ExLit} }

func column(table, name string) api.Expr {
	return api.Expr{Kind: api.ExCol, Table: table, Name: name}
}

func unary(op int, a api.Expr) api.Expr {
	return api.Expr{Kind: api.ExUnary, Op: op, Args: []api.Expr{a}}
}

func binary(a api.Expr, op int, b api.Expr) api.Expr {
	return api.Expr{Kind: api.ExBinary, Op: op, Args: []api.Expr{a, b}}
}

func call(op int, args ...api.Expr) api.Expr {
	return api.Expr{Kind: callKind(op), Op: op, Args: args}
}

func callKind(op int) int {
	if op <= api.DoMax {
		return api.ExAgg
	}
	return api.ExCall
}

// other is an expression of a kind that has arguments alone.
func other(kind int, down bool, args ...api.Expr) api.Expr {
	return api.Expr{Kind: kind, Down: down, Args: args}
}

func choice(args ...api.Expr) api.Expr { return other(api.ExCase, false, args...) }

// over is an expression of a kind that has a sub-query.
func over(kind int, down bool, q api.Query, args ...api.Expr) api.Expr {
	return api.Expr{Kind: kind, Down: down, Args: args, Sub: []api.Query{q}}
}

// asks is a query of one select, without a limit.
func asks(s api.Select) api.Query {
	return api.Query{Selects: []api.Select{s}, Limit: -1}
}

// all is the query of all columns of a table.
func all(table string) api.Query {
	return asks(api.Select{Items: []api.Item{{Star: true}}, From: []api.Source{{Table: table}}})
}

// isExpr tells that an expression is that as text.
func isExpr(t *testing.T, e api.Expr, want string) {
	t.Helper()
	if got := print.Expr(e); got != want {
		t.Errorf("Expr(%.400s): %.400q; want %.400q", plainExpr(e), got, want)
	}
}

// isQuery tells that a query is that as text.
func isQuery(t *testing.T, q api.Query, want string) {
	t.Helper()
	if got := print.Query(q); got != want {
		t.Errorf("Query(%.400s): %.400q; want %.400q", plainQuery(q), got, want)
	}
}

// putExpr tells that an expression that is written so is that as text.
func putExpr(t *testing.T, s, want string) {
	t.Helper()
	x, at, e := parse.Expr(s)
	if got := print.Expr(x); e != api.OK || got != want {
		t.Errorf("Expr of %q: %q (error %d at %d); want %q", s, got, e, at, want)
	}
}

// putQuery tells that a query that is written so is that as text, and as a sub-query likewise.
func putQuery(t *testing.T, s, want string) {
	t.Helper()
	x, at, e := parse.Query(s)
	if got := print.Query(x); e != api.OK || got != want {
		t.Errorf("Query of %q: %q (error %d at %d); want %q", s, got, e, at, want)
	}
	putExpr(t, "exists("+s+")", "EXISTS ("+want+")")
	putExpr(t, "not ("+s+") in ("+s+")", "NOT ("+want+") IN ("+want+")")
}
