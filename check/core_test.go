package check_test

import (
	"testing"

	"quayside/api"
)

// TestCk2Whole writes out two cores from end to end.
func TestCk2Whole(t *testing.T) {
	s := "select distinct x.b as p, d from t x left join u on x.a = u.a and (f and d > 1), v where g in ('x', e) order by d desc, p limit 5 offset 2"
	same(t, s, core(t, s), api.Core{
		Parts: []api.Part{{
			Tables:   []string{"t", "u", "v"},
			Left:     []bool{false, true, false},
			On:       [][]api.Expr{{}, {binary(column(0), api.DoEq, column(4)), column(6), binary(column(3), api.DoGt, number(1))}, {}},
			Where:    []api.Expr{other(api.ExIn, false, column(8), text("x"), column(5))},
			Items:    []api.Expr{column(1), column(3)},
			Distinct: true,
		}},
		Order:   []api.Sort{{Col: 1, Down: true}, {Col: 0}},
		Limit:   5,
		Offset:  2,
		Columns: []api.Column{is("p", api.Text, false), is("d", api.Int, true)},
	})
	s = "select b, count(*), sum(a) + count(*), b || 'x' as q from t where c and d in (select a from u union all select 2 order by 1) group by b, a % 2 having max(d) > a % 2 and not b = '' except select null, 1, 2, null order by 2"
	same(t, s, core(t, s), api.Core{
		Parts: []api.Part{
			{
				Tables: []string{"t"}, Left: []bool{false}, On: [][]api.Expr{{}},
				Where:   []api.Expr{column(2), over(api.ExInSub, false, 0, column(3))},
				Grouped: true,
				Group:   []api.Expr{column(1), binary(column(0), api.DoMod, number(2))},
				Aggs:    []api.Expr{call(api.DoCountAll), call(api.DoSum, column(0)), call(api.DoMax, column(3))},
				Having:  []api.Expr{binary(column(4), api.DoGt, column(1)), unary(api.DoNot, binary(column(0), api.DoEq, text("")))},
				Items:   []api.Expr{column(0), column(2), binary(column(3), api.DoAdd, column(2)), binary(column(0), api.DoCat, text("x"))},
			},
			{How: api.SetExcept, Items: []api.Expr{null(), number(1), number(2), null()}},
		},
		Subs: []api.Core{{
			Parts: []api.Part{
				{Tables: []string{"u"}, Left: []bool{false}, On: [][]api.Expr{{}}, Items: []api.Expr{column(0)}},
				{How: api.SetAll, Items: []api.Expr{number(2)}},
			},
			Order: []api.Sort{{}}, Limit: -1, Columns: []api.Column{is("a", api.Int, false)},
		}},
		Order:   []api.Sort{{Col: 1}},
		Limit:   -1,
		Columns: []api.Column{is("b", api.Text, true), is("", api.Int, false), is("", api.Int, true), is("q", api.Text, true)},
	})
}

// TestCk2Conditions: conditions are parted between the ANDs that bind least, and between those in these.
func TestCk2Conditions(t *testing.T) {
	a, b, c := column(2), binary(column(0), api.DoEq, number(1)), unary(api.DoNotNull, column(3))
	for s, want := range map[string][]api.Expr{
		"c":                                   {a},
		"c and a = 1":                         {a, b},
		"c and a = 1 and d is not null":       {a, b, c},
		"c and (a = 1 and d is not null)":     {a, b, c},
		"(c and a = 1) and (c and (c and c))": {a, b, a, a, a},
		"c or a = 1 and d is not null":        {binary(a, api.DoOr, binary(b, api.DoAnd, c))},
		"(c or a = 1) and d is not null":      {binary(a, api.DoOr, b), c},
		"not (c and a = 1) and c":             {unary(api.DoNot, binary(a, api.DoAnd, b)), a},
		"null and true":                       {null(), truth(1)},
		"coalesce(c and a = 1, c) and a = 1":  {call(api.DoCoalesce, binary(a, api.DoAnd, b), a), b},
		"(c and c) is null and c":             {unary(api.DoIsNull, binary(a, api.DoAnd, a)), a},
	} {
		same(t, s, part(t, "select 1 from t where "+s).Where, want)
		same(t, s, part(t, "select 1 from t join bare on "+s).On, [][]api.Expr{{}, want})
		same(t, s, part(t, "select 1 from t left join bare on "+s+" left join v on "+s).On, [][]api.Expr{{}, want, want})
	}
	p := part(t, "select 1 from t group by c, c and a = 1 having c and a = 1")
	same(t, "a group that is an AND", p.Having, []api.Expr{column(1)})
	p = part(t, "select 1 from t group by c and a = 1, c having (c and a = 1) and (c and max(d) = 1 and count(*) = 1)")
	same(t, "ANDs of groups", p.Having, []api.Expr{column(0), column(1), binary(column(2), api.DoEq, number(1)), binary(column(3), api.DoEq, number(1))})
}

// TestCk2Grouped: what makes a select a grouped one.
func TestCk2Grouped(t *testing.T) {
	for s, want := range map[string]bool{
		"select 1":                                      false,
		"select a from t where c":                       false,
		"select * from t":                               false,
		"select distinct a from t":                      false,
		"select (select count(*) from t)":               false,
		"select 1 in (select max(a) from t)":            false,
		"select exists (select 1 group by 1)":           false,
		"select 1 where 1 in (select count(*))":         false,
		"select 1 group by 1":                           true,
		"select 1 having true":                          true,
		"select count(*)":                               true,
		"select 1, 2, 3 + coalesce(1, sum(a)) from t":   true,
		"select count(*) in (select 1) from t":          true,
		"select case when max(c) then 1 end from t":     true,
		"select a from t group by a having count(*) =1": true,
	} {
		if p := part(t, s); p.Grouped != want {
			t.Errorf("%s: %v", s, p.Grouped)
		}
	}
	c := core(t, "select 1 union select count(*) union select 1")
	if c.Parts[0].Grouped || !c.Parts[1].Grouped || c.Parts[2].Grouped {
		t.Error("one select groups another one")
	}
}

// TestCk2Values: what is the same as a group, and as an aggregate, however it is written.
func TestCk2Values(t *testing.T) {
	for s, want := range map[string][]api.Expr{
		"a, t.a, b from t group by a, b":                                 {column(0), column(0), column(1)},
		"t.a from t group by a, t.a":                                     {column(0)},
		"a + 1, a from t group by a, a + 1":                              {column(1), column(0)},
		"a + 1 from t group by a":                                        {binary(column(0), api.DoAdd, number(1))},
		"(a + 1) * (t.a + 1) from t group by a + 1":                      {binary(column(0), api.DoMul, column(0))},
		"a + 1 + 1 from t group by a + 1":                                {binary(column(0), api.DoAdd, number(1))},
		"1 + 2, 1 from t group by 1":                                     {binary(column(0), api.DoAdd, number(2)), column(0)},
		"null, coalesce(null, 1) from t group by null":                   {column(0), call(api.DoCoalesce, column(0), number(1))},
		"case when true then 1 end from t group by null":                 {other(api.ExCase, false, truth(1), number(1), column(0))},
		"true, 1, '1' from t group by 1":                                 {truth(1), column(0), text("1")},
		"b in ('x'), b in ('y', 'x') from t group by b in ('x'),b":       {column(0), other(api.ExIn, false, column(1), text("y"), text("x"))},
		"b in ('x'), b not in ('x') from t group by b, b in ('x')":       {column(1), other(api.ExIn, true, column(0), text("x"))},
		"b like 'x', b not like 'x' from t group by b, b not like 'x'":   {other(api.ExLike, false, column(0), text("x")), column(1)},
		"a < 1, a <= 1 from t group by a, a < 1":                         {column(1), binary(column(0), api.DoLe, number(1))},
		"upper(b), lower(b) from t group by b, upper(b)":                 {column(1), call(api.DoLower, column(0))},
		"-5, - 5 from t group by -5":                                     {column(0), column(0)},
		"x.a + y.a, y.a, x.a from t x, t y group by y.a, x.a + y.a, x.a": {column(1), column(0), column(2)},
		"count(*), count(*) from t":                                      {column(0), column(0)},
		"count(a), count(t.a), count(d), count(*) from t":                {column(0), column(0), column(1), column(2)},
		"max(a), sum(a), max(a) - min(a) from t group by a, b":           {column(2), column(3), binary(column(2), api.DoSub, column(4))},
		"sum(a), sum(a + 1), a from t group by a, a + 1":                 {column(2), column(3), column(0)},
		"sum(- a), sum(- t.a) from t group by - a":                       {column(1), column(1)},
		"count(true), count(1), count('x'), count(1) from t":             {column(0), column(1), column(2), column(1)},
	} {
		same(t, s, part(t, "select "+s).Items, want)
	}
	p := part(t, "select sum(a), a from t group by a having max(d) = sum(a) and count(*) > count(d) and max(d) = 2 and sum(a + 1) = 1")
	same(t, "aggregates", p.Aggs, []api.Expr{call(api.DoSum, column(0)), call(api.DoMax, column(3)), call(api.DoCountAll), call(api.DoCount, column(3)), call(api.DoSum, binary(column(0), api.DoAdd, number(1)))})
	same(t, "groups twice", part(t, "select 1 from t group by a, a, 1 + a, b").Group, []api.Expr{column(0), column(0), binary(number(1), api.DoAdd, column(0)), column(1)})
}

// TestCk2SubsInGroups: what has a sub-query is never the same as a group, or as an aggregate.
func TestCk2SubsInGroups(t *testing.T) {
	p := part(t, "select (select 1), a + (select 1) from t group by (select 1), a")
	same(t, "groups", p.Group, []api.Expr{over(api.ExSub, false, 0), column(0)})
	same(t, "items", p.Items, []api.Expr{over(api.ExSub, false, 1), binary(column(1), api.DoAdd, over(api.ExSub, false, 2))})
	p = part(t, "select sum((select 1)), sum((select 1)), count(a in (select 1)), count(a in (select 1)), exists (select 1) from t group by exists (select 1)")
	same(t, "aggregates", p.Aggs, []api.Expr{
		call(api.DoSum, over(api.ExSub, false, 1)), call(api.DoSum, over(api.ExSub, false, 2)),
		call(api.DoCount, over(api.ExInSub, false, 3, column(0))), call(api.DoCount, over(api.ExInSub, false, 4, column(0))),
	})
	same(t, "items", p.Items, []api.Expr{column(1), column(2), column(3), column(4), over(api.ExExists, false, 5)})
}

// TestCk2Subs: sub-queries are numbered as they are met, each in its own query.
func TestCk2Subs(t *testing.T) {
	s := "select true, true union all select (select 5) = 1, (select 6) in (select 7) from t join bare on (select 0) = (select 1) join v on exists (select 2)" +
		" where a in (select 3) group by (select 4), a having (select 8) = 1 union select (select 9) = 1, exists (select 10 where (select 1) = 2 or (select 2) = 1)"
	c := core(t, s)
	if len(c.Subs) != 11 {
		t.Fatalf("%s: %d sub-queries", s, len(c.Subs))
	}
	for n, sub := range c.Subs {
		same(t, s, sub.Parts[0].Items, []api.Expr{number(n)})
		if (n == 10) != (len(sub.Subs) == 2) {
			t.Errorf("%s: the sub-query %d has %d", s, n, len(sub.Subs))
		}
	}
	same(t, s, c.Parts[1].On, [][]api.Expr{{}, {binary(over(api.ExSub, false, 0), api.DoEq, over(api.ExSub, false, 1))}, {over(api.ExExists, false, 2)}})
	same(t, s, c.Parts[1].Where, []api.Expr{over(api.ExInSub, false, 3, column(0))})
	same(t, s, c.Parts[1].Items, []api.Expr{binary(over(api.ExSub, false, 5), api.DoEq, number(1)), over(api.ExInSub, false, 7, over(api.ExSub, false, 6))})
	same(t, s, c.Parts[2].Items, []api.Expr{binary(over(api.ExSub, false, 9), api.DoEq, number(1)), over(api.ExExists, false, 10)})
	same(t, s, c.Subs[10].Parts[0].Where, []api.Expr{binary(binary(over(api.ExSub, false, 0), api.DoEq, number(2)), api.DoOr, binary(over(api.ExSub, false, 1), api.DoEq, number(1)))})
	// A sub-query does not know the columns around it, nor the names of sources.
	wrong(t, "select (select a) from t", 15, api.ErrName)
	core(t, "select (select a from t) from t where exists (select 1 from t)")
}

// TestCk2Columns: names of the first select, kinds and nulls of all of them.
func TestCk2Columns(t *testing.T) {
	columnsAre(t, "select a as p, b, a + 1, count(*) as q from t group by a, b", is("p", api.Int, false), is("b", api.Text, false), is("", api.Int, false), is("q", api.Int, false))
	columnsAre(t, "select *, a as b, * from u", is("a", api.Int, false), is("e", api.Text, true), is("f", api.Bool, true), is("n", api.Null, true), is("b", api.Int, false),
		is("a", api.Int, false), is("e", api.Text, true), is("f", api.Bool, true), is("n", api.Null, true))
	columnsAre(t, "select 1 as p, b from t union select d as q, null from t", is("p", api.Int, true), is("b", api.Text, true))
	columnsAre(t, "select null as p union all select null intersect select 1", is("p", api.Int, true))
	columnsAre(t, "select d from t except select 1", is("d", api.Int, true))
	columnsAre(t, "select 1 except select 2 as p", is("", api.Int, false))
	columnsAre(t, "select * from bare union select * from bare")
	c := core(t, "select *, 1 as p, * from t x, v y")
	same(t, "all columns", c.Parts[0].Items, []api.Expr{column(0), column(1), column(2), column(3), column(4), column(5), column(6), number(1), column(0), column(1), column(2), column(3), column(4), column(5), column(6)})
	c = core(t, "select 1 as a, 2 as b, 3 union all select 1, 2, 3 union select 1, 2, 3 intersect select 1, 2, 3 order by 3 desc, b, a desc, 1 limit 0")
	same(t, "orders", c.Order, []api.Sort{{Col: 2, Down: true}, {Col: 1}, {Col: 0, Down: true}, {Col: 0}})
	if c.Limit != 0 || c.Offset != 0 || c.Parts[1].How != api.SetAll || c.Parts[2].How != api.SetUnion || c.Parts[3].How != api.SetIntersect {
		t.Errorf("%+v", c)
	}
}
