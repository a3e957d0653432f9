package check_test

import (
	"testing"

	"quayside/api"
	"quayside/check"
)

// sorts are columns of all kinds, with nulls and without.
func sorts() []api.Column {
	return []api.Column{
		is("i", api.Int, false), is("in", api.Int, true), is("t", api.Text, false), is("tn", api.Text, true),
		is("b", api.Bool, false), is("bn", api.Bool, true), is("n", api.Null, true),
	}
}

// forms are expressions of all kinds but columns, literals and those of a query, without their arguments, and of how many these may be.
func forms() map[int][]api.Expr {
	m := map[int][]api.Expr{}
	put := func(n int, l ...api.Expr) { m[n] = append(m[n], l...) }
	for op := api.DoNot; op <= api.DoNotNull; op++ {
		put(1, api.Expr{Kind: api.ExUnary, Op: op})
	}
	for op := api.DoOr; op <= api.DoCat; op++ {
		put(2, api.Expr{Kind: api.ExBinary, Op: op})
	}
	for op := api.DoAbs; op <= api.DoLower; op++ {
		put(1, api.Expr{Kind: api.ExCall, Op: op})
	}
	put(3, api.Expr{Kind: api.ExCall, Op: api.DoSubstr}, api.Expr{Kind: api.ExCase})
	put(2, api.Expr{Kind: api.ExCall, Op: api.DoNullif})
	for _, op := range []int{api.DoCoalesce, api.DoLeast, api.DoGreatest} {
		for n := 1; n < 5; n++ {
			put(n, api.Expr{Kind: api.ExCall, Op: op})
		}
	}
	for _, down := range []bool{false, true} {
		put(2, api.Expr{Kind: api.ExIn, Down: down}, api.Expr{Kind: api.ExLike, Down: down})
		put(3, api.Expr{Kind: api.ExIn, Down: down}, api.Expr{Kind: api.ExBetween, Down: down})
		put(4, api.Expr{Kind: api.ExIn, Down: down})
	}
	return m
}

// each tells all rows of so many of the numbers below another one.
func each(n, below int, do func(l []int)) {
	l := make([]int, n)
	for {
		do(l)
		k := 0
		for k < n && l[k] == below-1 {
			l[k] = 0
			k++
		}
		if k == n {
			return
		}
		l[k]++
	}
}

// TestCk1Kinds: each expression of arguments of all kinds is what the table says, or refused.
func TestCk1Kinds(t *testing.T) {
	l := sorts()
	for n, some := range forms() {
		for _, e := range some {
			each(n, len(l), func(which []int) {
				e, want, are := e, e, []api.Column{}
				e.At, e.Args, want.Args = 5, nil, nil
				for k, c := range which {
					a := named("", l[c].Name)
					a.At = 6 + k
					e.Args, want.Args, are = append(e.Args, a), append(want.Args, column(c)), append(are, l[c])
				}
				isWhat(t, e, want, are)
			})
		}
	}
	each(5, len(l), func(which []int) {
		e, want, are := other(api.ExCase, false), other(api.ExCase, false), []api.Column{}
		e.At = 5
		for _, c := range which {
			e.Args, want.Args, are = append(e.Args, named("", l[c].Name)), append(want.Args, column(c)), append(are, l[c])
		}
		isWhat(t, e, want, are)
	})
}

// isWhat tells that an expression of columns is what the table says of these.
func isWhat(t *testing.T, e, want api.Expr, are []api.Column) {
	t.Helper()
	what, ok := plainIs(e, are)
	got, is, at, why := check.Expr(e, sorts())
	if ok && (at != 0 || why != api.OK || is != what || shown(got) != shown(want)) {
		t.Errorf("%s of %v: %+v, %+v, error %d at %d; want %+v, %+v", shown(e), are, got, is, why, at, want, what)
	}
	if !ok && (at != 5 || why != api.ErrType || is != api.Column{} || shown(got) != shown(api.Expr{})) {
		t.Errorf("%s of %v: %+v, %+v, error %d at %d; want %d at 5", shown(e), are, got, is, why, at, api.ErrType)
	}
}

// TestCk1KindsByHand: some of them, as they are read.
func TestCk1KindsByHand(t *testing.T) {
	for s, want := range map[string]api.Column{
		"1":                                     is("", api.Int, false),
		"''":                                    is("", api.Text, false),
		"false":                                 is("", api.Bool, false),
		"null":                                  is("", api.Null, true),
		"t.a":                                   is("a", api.Int, false),
		"d":                                     is("d", api.Int, true),
		"n":                                     is("n", api.Null, true),
		"not null":                              is("", api.Bool, true),
		"null and null":                         is("", api.Bool, true),
		"c or f":                                is("", api.Bool, true),
		"c and true":                            is("", api.Bool, false),
		"d is null":                             is("", api.Bool, false),
		"n is not null":                         is("", api.Bool, false),
		"b = e":                                 is("", api.Bool, true),
		"c < false":                             is("", api.Bool, false),
		"null <> null":                          is("", api.Bool, true),
		"t.a in (1, 2)":                         is("", api.Bool, false),
		"t.a not in (1, d)":                     is("", api.Bool, true),
		"null in (1, 2)":                        is("", api.Bool, true),
		"'x' between b and 'z'":                 is("", api.Bool, false),
		"b like e":                              is("", api.Bool, true),
		"null not like null":                    is("", api.Bool, true),
		"- d":                                   is("", api.Int, true),
		"- null":                                is("", api.Int, true),
		"t.a % 2":                               is("", api.Int, false),
		"null + null":                           is("", api.Int, true),
		"b || null":                             is("", api.Text, true),
		"upper(b)":                              is("", api.Text, false),
		"length(null)":                          is("", api.Int, true),
		"length(b)":                             is("", api.Int, false),
		"substr(null, null, null)":              is("", api.Text, true),
		"substr(b, 1, t.a)":                     is("", api.Text, false),
		"case when c then 1 end":                is("", api.Int, true),
		"case when f then 1 else 2 end":         is("", api.Int, false),
		"case when null then null else b end":   is("", api.Text, true),
		"case when c then null else null end":   is("", api.Null, true),
		"coalesce(d, null)":                     is("", api.Int, true),
		"coalesce(null, d, 1)":                  is("", api.Int, false),
		"coalesce(null)":                        is("", api.Null, true),
		"nullif(1, 2)":                          is("", api.Int, true),
		"nullif(null, 'x')":                     is("", api.Text, true),
		"nullif(null, null)":                    is("", api.Null, true),
		"least(null, 2)":                        is("", api.Int, true),
		"greatest(c, true)":                     is("", api.Bool, false),
		"count(*)":                              is("", api.Int, false),
		"count(n)":                              is("", api.Int, false),
		"sum(t.a)":                              is("", api.Int, true),
		"sum(null)":                             is("", api.Int, true),
		"min(b)":                                is("", api.Text, true),
		"max(c)":                                is("", api.Bool, true),
		"max(null)":                             is("", api.Null, true),
		"(select 1)":                            is("", api.Int, true),
		"(select count(*) from v)":              is("", api.Int, true),
		"(select null union select 'x')":        is("", api.Text, true),
		"1 in (select 1)":                       is("", api.Bool, true),
		"null not in (select 'x')":              is("", api.Bool, true),
		"exists (select * from v)":              is("", api.Bool, false),
		"exists (select null, 1 from bare)":     is("", api.Bool, false),
		"coalesce(nullif(1, 1), length(e) + 1)": is("", api.Int, true),
	} {
		columnsAre(t, "select "+s+" from t, u", want)
	}
}

// TestCk1Left: the columns of a source that is Left may be null.
func TestCk1Left(t *testing.T) {
	from := " from t left join u on true join v on g is null left join t x on true"
	columnsAre(t, "select *"+from,
		is("a", api.Int, false), is("b", api.Text, false), is("c", api.Bool, false), is("d", api.Int, true),
		is("a", api.Int, true), is("e", api.Text, true), is("f", api.Bool, true), is("n", api.Null, true),
		is("g", api.Text, false), is("twice", api.Int, false), is("twice", api.Text, false),
		is("a", api.Int, true), is("b", api.Text, true), is("c", api.Bool, true), is("d", api.Int, true))
	columnsAre(t, "select t.a, u.a + 1, g, x.c"+from, is("a", api.Int, false), is("", api.Int, true), is("g", api.Text, false), is("c", api.Bool, true))
	columnsAre(t, "select u.a, count(u.a), t.a, 1"+from+" group by u.a, t.a", is("a", api.Int, true), is("", api.Int, false), is("a", api.Int, false), is("", api.Int, false))
}
