package print_test

import (
	"reflect"
	"testing"

	"quayside/api"
	"quayside/parse"
	"quayside/print"
)

// nowhere is an expression without where it begins.
func nowhere(e api.Expr) api.Expr {
	e.At = 0
	e.Args = nowhereAll(e.Args)
	var subs []api.Query
	for _, q := range e.Sub {
		subs = append(subs, nowhereQuery(q))
	}
	e.Sub = subs
	return e
}

func nowhereAll(l []api.Expr) []api.Expr {
	var all []api.Expr
	for _, e := range l {
		all = append(all, nowhere(e))
	}
	return all
}

func nowhereQuery(q api.Query) api.Query {
	x := api.Query{Limit: q.Limit, Offset: q.Offset}
	for _, s := range q.Selects {
		var items []api.Item
		for _, i := range s.Items {
			i.Expr = nowhere(i.Expr)
			items = append(items, i)
		}
		var from []api.Source
		for _, f := range s.From {
			f.At, f.On = 0, nowhereAll(f.On)
			from = append(from, f)
		}
		s.Items, s.From = items, from
		s.Where, s.Group, s.Having = nowhereAll(s.Where), nowhereAll(s.Group), nowhereAll(s.Having)
		x.Selects = append(x.Selects, s)
	}
	for _, k := range q.Order {
		k.At = 0
		x.Order = append(x.Order, k)
	}
	return x
}

// returns tells that an expression is put as by the chapter's words, and what was put is parsed as it was; whether it was short enough to be parsed.
func returns(t *testing.T, e api.Expr) bool {
	t.Helper()
	s := print.Expr(e)
	if want := plainExpr(e); s != want {
		t.Errorf("Expr: %q; want %q", s, want)
	}
	x, at, err := parse.Expr(s)
	if err == api.ErrFull && at == 0 {
		return false
	}
	if err != api.OK || !reflect.DeepEqual(nowhere(x), nowhere(e)) {
		t.Errorf("%q is parsed as %q, error %d at %d", s, plainExpr(x), err, at)
	}
	if again := print.Expr(x); err == api.OK && again != s {
		t.Errorf("%q is put again as %q", s, again)
	}
	return true
}

func returnsQuery(t *testing.T, q api.Query) bool {
	t.Helper()
	s := print.Query(q)
	if want := plainQuery(q); s != want {
		t.Errorf("Query: %q; want %q", s, want)
	}
	x, at, err := parse.Query(s)
	if err == api.ErrFull && at == 0 {
		return false
	}
	if err != api.OK || !reflect.DeepEqual(nowhereQuery(x), nowhereQuery(q)) {
		t.Errorf("%q is parsed as %q, error %d at %d", s, plainQuery(x), err, at)
	}
	if again := print.Query(x); err == api.OK && again != s {
		t.Errorf("%q is put again as %q", s, again)
	}
	return true
}

// forms are all ways of an expression, of arguments that are taken one behind the other.
func forms() []func(next func() api.Expr) api.Expr {
	var l []func(next func() api.Expr) api.Expr
	put := func(f func(next func() api.Expr) api.Expr) { l = append(l, f) }
	for _, op := range []int{api.DoNot, api.DoNeg, api.DoIsNull, api.DoNotNull} {
		put(func(next func() api.Expr) api.Expr { return unary(op, next()) })
	}
	for op := api.DoOr; op <= api.DoCat; op++ {
		put(func(next func() api.Expr) api.Expr { return binary(next(), op, next()) })
	}
	for op := api.DoCount; op <= api.DoGreatest; op++ {
		args := map[int]int{api.DoSubstr: 3, api.DoNullif: 2, api.DoCoalesce: 2, api.DoLeast: 3, api.DoGreatest: 1}[op]
		put(func(next func() api.Expr) api.Expr {
			e := call(op, next())
			for range max(args, 1) - 1 {
				e.Args = append(e.Args, next())
			}
			return e
		})
	}
	for _, down := range []bool{false, true} {
		put(func(next func() api.Expr) api.Expr { return other(api.ExIn, down, next(), next(), next()) })
		put(func(next func() api.Expr) api.Expr { return other(api.ExBetween, down, next(), next(), next()) })
		put(func(next func() api.Expr) api.Expr { return other(api.ExLike, down, next(), next()) })
		put(func(next func() api.Expr) api.Expr { return over(api.ExInSub, down, all("t"), next()) })
	}
	put(func(next func() api.Expr) api.Expr { return choice(next(), next(), next()) })
	put(func(next func() api.Expr) api.Expr { return choice(next(), next(), next(), next(), null()) })
	for _, e := range []api.Expr{call(api.DoCountAll), over(api.ExSub, false, all("t")), over(api.ExExists, false, all("t")), column("", "a"), column("t", "a"), number(5), number(0), number(-5), number(api.MaxInt), text("x"), truth(1), null()} {
		put(func(func() api.Expr) api.Expr { return e })
	}
	return l
}

// TestPr2Pairs: each way of an expression in each place of each other one is parsed as it was, and so are three within one another.
func TestPr2Pairs(t *testing.T) {
	all := forms()
	plain := func() api.Expr { return column("", "x") }
	count := 0
	for _, outer := range all {
		for place := range 5 {
			for _, inner := range all {
				k := -1
				e := outer(func() api.Expr {
					k++
					if k == place {
						return inner(plain)
					}
					return plain()
				})
				if k < place {
					break
				}
				returns(t, e)
				count++
				for _, outest := range all[:18] {
					returns(t, outest(func() api.Expr { return e }))
				}
			}
		}
	}
	if count < 3000 {
		t.Errorf("%d pairs", count)
	}
}

// TestPr2Run: a long run of queries and expressions, put as by the chapter's words, parsed as they were, and put again.
func TestPr2Run(t *testing.T) {
	x := dice(18)
	long, short := 0, 0
	for k := range 20000 {
		m := &maker{dice: &x, left: 1 + x.below(8<<(k%5))}
		fits := false
		if k%2 == 0 {
			fits = returns(t, m.expr(1+x.below(9)))
		} else {
			fits = returnsQuery(t, m.query(1+x.below(7)))
		}
		if fits {
			short++
		} else {
			long++
		}
		if t.Failed() {
			return
		}
	}
	if long > 500 || short < 15000 {
		t.Errorf("%d too long, %d not", long, short)
	}
}

// TestPr2Edges: what is as long, as deep and as much as it may be is parsed as it was.
func TestPr2Edges(t *testing.T) {
	e, neg, not := column("", "a"), column("", "a"), column("", "a")
	left, right := column("", "a"), column("", "a")
	for range 31 {
		e = other(api.ExLike, true, e, column("", "b"))
		neg, not = unary(api.DoNeg, neg), unary(api.DoNot, not)
		left, right = binary(left, api.DoSub, number(1)), binary(number(1), api.DoSub, right)
	}
	for _, e := range []api.Expr{e, neg, not, left, right} {
		returns(t, e)
	}
	many := make([]api.Expr, 33)
	for k := range many {
		many[k] = binary(column("", "a"), api.DoOr, number(-k))
	}
	returns(t, choice(many...))
	returns(t, other(api.ExIn, true, many[:17]...))
	returns(t, call(api.DoLeast, many[:16]...))
	q := asks(api.Select{Group: many[:16]})
	for k := range 16 {
		q.Selects[0].Items = append(q.Selects[0].Items, api.Item{Expr: many[k], As: "NULL"})
		q.Order = append(q.Order, api.Key{Place: k + 1, Down: k%2 == 0})
	}
	for range 6 {
		q.Selects[0].From = append(q.Selects[0].From, api.Source{Table: "t t", As: "t"})
	}
	returnsQuery(t, q)
	q = all("t")
	for k := range 7 {
		s := q.Selects[0]
		s.How = api.SetAll + k%4
		q.Selects = append(q.Selects, s)
	}
	q.Limit, q.Offset = api.MaxInt, api.MaxInt
	returnsQuery(t, q)
}
