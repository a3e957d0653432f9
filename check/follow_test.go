package check_test

import (
	"slices"
	"testing"

	"quayside/api"
	"quayside/check"
	"quayside/parse"
	"quayside/print"
)

// TestCk4Printed: a query that is printed means the same, and is wrong for the same reason.
func TestCk4Printed(t *testing.T) {
	x := dice(18)
	seen := map[api.Errno]int{}
	for n := range 12000 {
		m := &maker{dice: &x, left: 40, odd: 40 + 4000*(n%2)}
		q := m.query([]int{1 + x.below(3), 1 + x.below(3)}[:1+x.below(2)], 4)
		s := print.Query(q)
		again, _, bad := parse.Query(s)
		if bad != api.OK {
			continue
		}
		want, _, e := check.Query(q, some())
		got, at, why := check.Query(again, some())
		if why != e {
			t.Fatalf("%s: error %d at %d; want %d", s, why, at, e)
		}
		same(t, s, got, want)
		seen[e]++
	}
	for _, e := range []api.Errno{api.OK, api.ErrName, api.ErrType, api.ErrGroup, api.ErrWidth} {
		if seen[e] < 50 {
			t.Errorf("the error %d only %d times", e, seen[e])
		}
	}
}

// renamed is an expression with other names for the tables of its columns.
func renamed(e api.Expr, names map[string]string) api.Expr {
	if to, ok := names[e.Table]; ok && e.Table != "" {
		e.Table = to
	}
	e.Args, e.Sub = renamedAll(e.Args, names), slices.Clone(e.Sub)
	for k, q := range e.Sub {
		e.Sub[k] = renamedQuery(q)
	}
	return e
}

func renamedAll(l []api.Expr, names map[string]string) []api.Expr {
	var out []api.Expr
	for _, e := range l {
		out = append(out, renamed(e, names))
	}
	return out
}

// renamedQuery is a query whose sources all go by other names.
func renamedQuery(q api.Query) api.Query {
	q.Selects = slices.Clone(q.Selects)
	for k, s := range q.Selects {
		names := map[string]string{}
		s.From = slices.Clone(s.From)
		for n, f := range s.From {
			from := f.As
			if from == "" {
				from = f.Table
			}
			names[from] = from + "'s other name"
			s.From[n].As = names[from]
			s.From[n].On = renamedAll(f.On, names)
		}
		s.Items = slices.Clone(s.Items)
		for n := range s.Items {
			s.Items[n].Expr = renamed(s.Items[n].Expr, names)
		}
		s.Where, s.Group, s.Having = renamedAll(s.Where, names), renamedAll(s.Group, names), renamedAll(s.Having, names)
		q.Selects[k] = s
	}
	return q
}

// TestCk4Renamed: a query means the same with other names for its tables.
func TestCk4Renamed(t *testing.T) {
	x := dice(4)
	right := 0
	for n := range 12000 {
		m := &maker{dice: &x, left: 40, odd: 40 + 4000*(n%2)}
		q := m.query([]int{1 + x.below(3), 1 + x.below(3)}[:1+x.below(2)], 4)
		want, wantAt, e := check.Query(q, some())
		got, at, why := check.Query(renamedQuery(q), some())
		if why != e || at != wantAt {
			t.Fatalf("%s: error %d at %d; want %d at %d", print.Query(renamedQuery(q)), why, at, e, wantAt)
		}
		same(t, print.Query(q), got, want)
		if e == api.OK {
			right++
		}
	}
	if right < 3000 {
		t.Error("only", right, "are right")
	}
}

// TestCk4Written: some that are written in two ways.
func TestCk4Written(t *testing.T) {
	for s, other := range map[string]string{
		"select a, b from t where c":                          "SELECT t.a, \"b\" FROM t WHERE ((t.c))",
		"select x.a from t x join u y on x.a = y.a":           "select one.a from t as one inner join u as two on (one.a) = (two.a)",
		"select a + 1, sum(d) from t group by a + 1":          "select (x.a)+1, SUM(x.d) from t x group by ((a) + (1))",
		"select 1 != 2, -5 from t /* none */":                 "select 1 <> 2, - 5 from t",
		"select case when c then 1 end from t order by 1 asc": "select case when c then 1 else null end from t order by 1",
	} {
		same(t, other, core(t, other), core(t, s))
	}
}
