package check_test

import (
	"strings"
	"testing"

	"quayside/api"
	"quayside/check"
)

// marked is a query that is wrong where the sign ^ is, which is left out.
func marked(t *testing.T, e api.Errno, list ...string) {
	t.Helper()
	for _, s := range list {
		ahead, behind, ok := strings.Cut(s, "^")
		at := len(ahead)
		if !ok {
			at = 0
		}
		wrong(t, ahead+behind, at, e)
	}
}

// TestCk1Names: what is no name, or that of more than one.
func TestCk1Names(t *testing.T) {
	marked(t, api.ErrName,
		"select 1 from ^none", "select 1 from t, ^none x", "select 1 from ^tt", "select 1 from ^\"t \"",
		"select 1 from t, ^t", "select 1 from t x, u, ^v x", "select 1 from t u, ^u", "select 1 from t, ^u t", "select 1 from t x, t y, ^t x",
		"select ^z from t", "select ^x.a from t", "select ^t.z from t", "select ^t.e from t, u", "select ^t.a from t x", "select ^A from t", "select ^T.a from t",
		"select ^a from t, u", "select ^b from t, t x", "select ^twice from v", "select ^v.twice from v", "select ^a",
		"select ^t.a from u x", "select t.a + ^a from t, u",
		"select *", "select 1, * where true",
		"select 1 from t where ^e = ''", "select 1 from t group by ^e", "select 1 from t having ^e = ''", "select count(^e) from t",
		"select 1 from t join u on ^g = '' join v on true", "select 1 from t x join u on ^v.g = '', v",
		"select a from t order by ^2", "select * from t order by 4, ^5", "select a from t order by 1, ^b", "select a + 1 from t order by ^a",
		"select a as p from t order by ^a", "select a, b as a from t order by 1, ^a", "select a, b as a from t order by ^b", "select * from t, u order by ^a", "select a from t order by 1, 1, ^A",
		"select 1 as p union select 2 as q order by ^q", "select a from t order by ^99 limit 1",
	)
	for _, s := range []string{
		"select t.a from t", "select T.A from T", "select t.A from T t", "select x.a, t.a from t x, t", "select e, b from t, u", "select u.a from t u", "select g from v",
		"select 1 from bare", "select * from bare", "select a from t order by a desc, 1, a", "select a + 1 from t order by 1", "select 1 as p union select 2 as q order by p",
		"select 1 from t, t x, t y, t z, u, v", "select b as a, c as b from t order by a, b",
		"select 1 from t join t x on t.a = x.a join t y on y.a = x.a and t.b = y.b",
	} {
		core(t, s)
	}
}

// TestCk1Groups: aggregates where they may not stand, and columns.
func TestCk1Groups(t *testing.T) {
	marked(t, api.ErrGroup,
		"select 1 from t where ^count(*) = 1", "select 1 from t join u on ^max(d) = 1", "select 1 from t group by ^count(*)", "select 1 from t group by 1 + ^min(a)",
		"select sum(^sum(a)) from t", "select count(^count(*)) from t", "select count(1 + ^sum(a)) from t", "select 1 from t having sum(^max(a)) = 1",
		"select ^a, count(*) from t", "select count(*), ^a from t", "select count(*) + ^a from t", "select ^a + count(*) from t", "select ^a + 1 from t having true",
		"select ^b from t group by a", "select a + ^d from t group by a", "select ^a + 1 from t group by a + 2", "select 1 from t group by a having ^d = 1",
		"select ^a from t group by a + 1", "select ^a from t group by (select 1)", "select 1 + ^a from t group by 1, a + 1", "select ^a + 1 from t group by 1 + a",
		"select a in (1, ^d) from t group by a", "select ^c is null from t group by c is not null",
		"select ^b not like 'x' from t group by b like 'x'", "select ^b not in ('x') from t group by b in ('x')",
		"select * from t group by a, b, c, d", "select count(*), * from t", "select * from t having true", "select 1, *, a from t group by 1",
		"select ^a + (select 1) from t group by a + (select 1)", "select ^a in (select 1) from t group by a in (select 1)", "select a, coalesce(^d, 1) from t group by a",
		"select exists (select ^a, count(*) from t)", "select case when count(*) = 1 then ^d end from t",
	)
	for _, s := range []string{
		"select 1 + count(*), (select a from t) from t", "select sum((select count(*) from t)) from t", "select 1 from t where a = (select count(*) from t)",
		"select count(*)", "select count(*) from t having 1 = 1", "select 1 having true", "select max(a + d) + min(a) from t where a = 1 group by b having sum(a) > 1",
		"select a + 1 + 1, a + 1 from t group by a + 1", "select x.a from t x group by a", "select a, t.a from t group by t.a, a", "select b || '', b from t group by b",
		"select * from t where exists (select count(*) from u)", "select a from t where a in (select sum(a) from u group by e)",
		"select case when a = 1 then 2 end from t group by case when a = 1 then 2 else null end",
	} {
		core(t, s)
	}
}

// TestCk1Widths: sub-queries of not one column, and selects of not as many.
func TestCk1Widths(t *testing.T) {
	marked(t, api.ErrWidth,
		"select (^select 1, 2)", "select ^1 in (select 1, 2)", "select 1 + (^select * from t)", "select (^select * from bare)", "select 1 from t where (^select true, true)",
		"select 1 union select 1, 2", "select 1, 2 except select 1", "select * from t union all select * from v", "select * from bare union select 1", "select 1 union select * from bare",
		"select (select 1, 2 union select 1)", "select exists (select 1 intersect select 1, 2)", "select 1, 2 union select 1, 2 union select 1",
	)
	for _, s := range []string{"select (select A from T)", "select (select * from T)", "select exists (select * from t)", "select * from t union select a, b, c, d from t", "select * from bare union select * from bare"} {
		core(t, s)
	}
}

// TestCk1Types: values of other kinds than they must be.
func TestCk1Types(t *testing.T) {
	marked(t, api.ErrType,
		"select ^a + b from t", "select 1 + (^b + 1) from t", "select ^not a from t", "select ^a and c from t", "select ^c or 'x' from t", "select ^- c from t",
		"select ^a = b from t", "select ^c < 1 from t", "select ^null in (1, 'x')", "select ^1 between null and true", "select ^b like a from t", "select ^a || b from t",
		"select ^upper(1)", "select ^length(true)", "select ^abs('x')", "select ^substr(1, 1, 1)", "select ^substr('x', 'x', 1)", "select ^substr('x', 1, true)",
		"select ^case when 1 then 1 end", "select ^case when true then 1 when 'x' then 2 end", "select ^case when true then 1 else 'x' end", "select ^case when true then null when c then 1 else c end from t",
		"select ^coalesce(null, 1, 'x')", "select ^nullif(1, 'x')", "select ^least(1, null, true)", "select ^greatest('x', 1)", "select ^sum(b) from t", "select ^sum(true)",
		"select ^'x' in (select 1)", "select ^c not in (select a from t) from t", "select length(^a like 'x') from t",
		"select 1 from t where ^a", "select 1 where ^''", "select 1 from t join u on ^b", "select 1 having ^1", "select 1 from t having ^count(*)", "select 1 where (^1)",
		"select 1 where (^select 1)",
		"select 1 union select 'x'", "select 1, 'x' union select null, true", "select null union select 1 union select true", "select 1 except select null intersect select ''",
		"select (select 1 union select '')", "select a from t union select c from t",
	)
	for _, s := range []string{"select null union all select 1 union all select null", "select 1 where null", "select 1 from t join u on n where n having null", "select 1 having max(null)", "select 1 from t where (select null)", "select null in (null, 1, null)", "select 1 where (select true)"} {
		core(t, s)
	}
}

// TestCk1Order: of more than one wrong thing the first one is told.
func TestCk1Order(t *testing.T) {
	marked(t, api.ErrName,
		// Sources, each with its ON, ahead of WHERE, groups, items and HAVING.
		"select none1 from t join ^none2 on none3 where none4", "select none1 from t join u on ^none2, none3 where none4", "select none1, 1 + 'x' from t where ^none2 group by none3",
		"select 1 + 'x' from t group by ^none2 having none3", "select 1 + ^none2 from t group by a having none3", "select 1 from t where true having ^none3 order by 9",
		"select 1 from t where 1 + ^none is null order by 9", "select 1, ^none, 1 + 'x' from t", "select 1 from t group by a, ^none, 1 + 'x'",
		// One select ahead of the next one, and keys behind all.
		"select ^none union select 1, 2", "select 1 union select ^none, 2", "select 1 union select 1 union select ^none", "select 1 from t union select 2 from ^none order by 9", "select 1 union select 2 order by ^9, none",
		"select 1 union select 2 order by ^none, 9",
		// Arguments one behind the other, ahead of what they are of.
		"select 'x' + ^none", "select ^none1 + none2", "select ^none + (1 + 'x')", "select sum(^none) from t where true", "select 1 from t where sum(^none) = 1", "select sum('x' || ^none) from t",
		"select ^none in (select none2)", "select 1 in (select ^none2)", "select case when true then 'x' when ^none then 1 end",
		"select *, none from t where ^none", "select *, none",
	)
	marked(t, api.ErrType,
		"select none from t where ^a", "select (^1 + 'x') + none", "select none from t group by ^1 + 'x'", "select 1 from t join u on ^t.a join none on true", "select ^1 + 'x', none",
		"select ^1 + 'x' union select none", "select 1 from t where ^a group by none", "select (select ^not 1 union select 1, 2)", "select sum(^b + 1) from t where true",
		"select ^sum(b), none from t", "select 1 union select '' order by 9", "select 1, 'x' union select '', 'x' union select none",
	)
	marked(t, api.ErrGroup,
		"select ^a + none, count(*) from t", "select *, none from t group by a", "select none from t where ^sum('x') = 1", "select none from t group by ^sum('x')", "select sum(^count('x' || b)) from t where true",
		"select count(*), ^d, none from t", "select ^d + 'x' from t group by a", "select sum(^count(*)) in (select none) from t",
	)
	marked(t, api.ErrWidth,
		"select ^'x' in (select 1, 2)", "select (^select 1, 2) + 'x'", "select 1 union select 1, 'x' union select none", "select 'x' union select 1, 2", "select ^1 in (select 1, 2), none",
		"select 1 union select 1, 2 order by 9",
	)
}

// TestCk1Tables: the first table of a name counts; without tables there are no sources.
func TestCk1Tables(t *testing.T) {
	wrong(t, "select z from t", 7, api.ErrName)
	for _, tables := range [][]api.Schema{nil, {}, {{}}, {{Name: "T"}}} {
		if _, at, e := check.Query(parsed(t, "select 1 from t"), tables); at != 14 || e != api.ErrName {
			t.Errorf("of %v: error %d at %d", tables, e, at)
		}
		if _, at, e := check.Query(parsed(t, "select 1"), tables); at != 0 || e != api.OK {
			t.Errorf("of %v: error %d at %d", tables, e, at)
		}
	}
}
