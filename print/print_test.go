package print_test

import (
	"strings"
	"testing"

	"quayside/api"
	"quayside/print"
)

// TestPr1Example: the one of the chapter.
func TestPr1Example(t *testing.T) {
	putExpr(t, "a+b * -(5)", "a + b * - (5)")
}

// TestPr1Literal: nulls and truths stand in capitals, others as they are shown.
func TestPr1Literal(t *testing.T) {
	isExpr(t, null(), "NULL")
	isExpr(t, truth(0), "FALSE")
	isExpr(t, truth(1), "TRUE")
	isExpr(t, number(0), "0")
	isExpr(t, number(-7), "-7")
	isExpr(t, number(api.MaxInt), "9223372036854775807")
	isExpr(t, number(-api.MaxInt), "-9223372036854775807")
	isExpr(t, text(""), "''")
	isExpr(t, text("null"), "'null'")
	isExpr(t, text("true"), "'true'")
	isExpr(t, text("It's"), "'It''s'")
	isExpr(t, text("a\n\x00\xff"), "'a\n\x00\xff'")
	isExpr(t, text(strings.Repeat("'", 64)), strings.Repeat("'", 130))
}

// TestPr1Column: names stand between quotes where they must, with a table and without.
func TestPr1Column(t *testing.T) {
	isExpr(t, column("", "a"), "a")
	isExpr(t, column("", "Sum"), "Sum")
	isExpr(t, column("t", "a"), "t.a")
	isExpr(t, column("a b", "c"), `"a b".c`)
	isExpr(t, column("t", "select"), `t."select"`)
	isExpr(t, column("", "NULL"), `"NULL"`)
	isExpr(t, column("1", `a"b`), `"1"."a""b"`)
	isExpr(t, column("", "é"), `"é"`)
}

// TestPr1Between: of each sign, what binds as strong stands without brackets ahead of it, if it is none of a comparison, and never behind it.
func TestPr1Between(t *testing.T) {
	a, b, c := column("", "a"), column("", "b"), column("", "c")
	for _, words := range []string{"OR", "AND", "= <> < <= > >=", "+ - ||", "* / %"} {
		l := strings.Fields(words)
		for _, x := range l {
			for _, y := range l {
				first := binary(a, opOf(x), b)
				last := binary(b, opOf(y), c)
				isExpr(t, first, "a "+x+" b")
				isExpr(t, binary(a, opOf(x), last), "a "+x+" (b "+y+" c)")
				if len(l) == 6 {
					isExpr(t, binary(first, opOf(y), c), "(a "+x+" b) "+y+" c")
				} else {
					isExpr(t, binary(first, opOf(y), c), "a "+x+" b "+y+" c")
				}
			}
		}
	}
}

// opOf is what a sign does.
func opOf(word string) int {
	for op, s := range opWords {
		if s == word {
			return op
		}
	}
	return 0
}

// TestPr1Levels: what binds weaker stands between brackets, what binds stronger does not.
func TestPr1Levels(t *testing.T) {
	for _, x := range [][2]string{
		{"a or b and c", "a OR b AND c"},
		{"(a or b) and (c or d)", "(a OR b) AND (c OR d)"},
		{"a and (b and c)", "a AND (b AND c)"},
		{"(a and b) and c", "a AND b AND c"},
		{"not (a and b)", "NOT (a AND b)"},
		{"not (a or b)", "NOT (a OR b)"},
		{"(not a) and not b", "NOT a AND NOT b"},
		{"not not a", "NOT NOT a"},
		{"not (a = b)", "NOT a = b"},
		{"(not a) = b", "(NOT a) = b"},
		{"a = (not b)", "a = (NOT b)"},
		{"not (a in (1))", "NOT a IN (1)"},
		{"(not a) in (1)", "(NOT a) IN (1)"},
		{"(a = b) < (c = d)", "(a = b) < (c = d)"},
		{"a + b = c + d", "a + b = c + d"},
		{"(a + b) * (c - d)", "(a + b) * (c - d)"},
		{"(a * b) + (c * d)", "a * b + c * d"},
		{"a || (b || c)", "a || (b || c)"},
		{"-(a * b)", "- (a * b)"},
		{"-a * -b", "- a * - b"},
		{"-(-(a))", "- - a"},
		{"-(-(5))", "- - (5)"},
		{"- -5", "- -5"},
		{"-(5)", "- (5)"},
		{"-(0)", "- (0)"},
		{"-'5'", "- '5'"},
		{"-null", "- NULL"},
		{"-true", "- TRUE"},
		{"-5", "-5"},
		{"a - -5", "a - -5"},
		{"a - -b", "a - - b"},
		{"a*-5", "a * -5"},
		{"-(select 1)", "- (SELECT 1)"},
		{"-abs(5)", "- ABS(5)"},
		{"(a + b) is null", "a + b IS NULL"},
		{"(a = b) is null", "(a = b) IS NULL"},
		{"(a is null) is not null", "(a IS NULL) IS NOT NULL"},
		{"(not a) is not null", "(NOT a) IS NOT NULL"},
		{"not a is not null", "NOT a IS NOT NULL"},
		{"-a is null", "- a IS NULL"},
	} {
		putExpr(t, x[0], x[1])
	}
}

// TestPr1Test: BETWEEN, LIKE and IN, said and not said to be so.
func TestPr1Test(t *testing.T) {
	for _, x := range [][2]string{
		{"a between 1 and 2", "a BETWEEN 1 AND 2"},
		{"a not between b+1 and -c", "a NOT BETWEEN b + 1 AND - c"},
		{"(a=b) between (c or d) and (not e)", "(a = b) BETWEEN (c OR d) AND (NOT e)"},
		{"a between (b between 1 and 2) and (c like 'x')", "a BETWEEN (b BETWEEN 1 AND 2) AND (c LIKE 'x')"},
		{"a between 1 and 2 and b", "a BETWEEN 1 AND 2 AND b"},
		{"a like 'x%'", "a LIKE 'x%'"},
		{"a not like b||c", "a NOT LIKE b || c"},
		{"(a like b) like (c = d)", "(a LIKE b) LIKE (c = d)"},
		{"a in (1)", "a IN (1)"},
		{"a+b not in (1,c or d,(e))", "a + b NOT IN (1, c OR d, e)"},
		{"(a in (1)) in (b in (2))", "(a IN (1)) IN (b IN (2))"},
		{"(a and b) in (c,d)", "(a AND b) IN (c, d)"},
		{"a in (select 1)", "a IN (SELECT 1)"},
		{"a not in (select 1)", "a NOT IN (SELECT 1)"},
		{"(a in (select 1)) in (select 2)", "(a IN (SELECT 1)) IN (SELECT 2)"},
		{"a in ((select 1))", "a IN ((SELECT 1))"},
		{"a in ((select 1), 2)", "a IN ((SELECT 1), 2)"},
		{"not a not in (1)", "NOT a NOT IN (1)"},
	} {
		putExpr(t, x[0], x[1])
	}
}

// TestPr1Case: each two, and the last one, which is always there.
func TestPr1Case(t *testing.T) {
	for _, x := range [][2]string{
		{"case when a then 1 else 2 end", "CASE WHEN a THEN 1 ELSE 2 END"},
		{"case when a then 1 end", "CASE WHEN a THEN 1 ELSE NULL END"},
		{"case when a or b then c or d when not e then f and g else h or i end", "CASE WHEN a OR b THEN c OR d WHEN NOT e THEN f AND g ELSE h OR i END"},
		{"-case when a then b end * 2", "- CASE WHEN a THEN b ELSE NULL END * 2"},
		{"case when case when a then b end then c end", "CASE WHEN CASE WHEN a THEN b ELSE NULL END THEN c ELSE NULL END"},
	} {
		putExpr(t, x[0], x[1])
	}
}

// TestPr1Call: functions and aggregates, in capitals, their arguments without brackets.
func TestPr1Call(t *testing.T) {
	for _, x := range [][2]string{
		{"count( * )", "COUNT(*)"},
		{"Count(a or b)", "COUNT(a OR b)"},
		{"sum(a)", "SUM(a)"},
		{"min(a)", "MIN(a)"},
		{"max(a)", "MAX(a)"},
		{"abs(-5)", "ABS(-5)"},
		{"length('')", "LENGTH('')"},
		{"upper(a)", "UPPER(a)"},
		{"lower(a)", "LOWER(a)"},
		{"substr(a,1,2)", "SUBSTR(a, 1, 2)"},
		{"coalesce(a)", "COALESCE(a)"},
		{"coalesce(a,not b,c or d)", "COALESCE(a, NOT b, c OR d)"},
		{"nullif(a,b)", "NULLIF(a, b)"},
		{"least(a,b,c,d)", "LEAST(a, b, c, d)"},
		{"greatest((select 1))", "GREATEST((SELECT 1))"},
		{`"SUM"(a)`, "SUM(a)"},
	} {
		putExpr(t, x[0], x[1])
	}
}

// TestPr1Query: each part of a query.
func TestPr1Query(t *testing.T) {
	for _, x := range [][2]string{
		{"select 1", "SELECT 1"},
		{"select distinct *", "SELECT DISTINCT *"},
		{"select *,a,(b) as c,* from t", "SELECT *, a, b AS c, * FROM t"},
		{`select a as "order","from" from "group by"`, `SELECT a AS "order", "from" FROM "group by"`},
		{"select a or b as c", "SELECT a OR b AS c"},
		{"select (select 1)", "SELECT (SELECT 1)"},
		{"select * from t u", "SELECT * FROM t AS u"},
		{"select * from t as \"as\"", "SELECT * FROM t AS \"as\""},
		{"select * from t,u v,w", "SELECT * FROM t, u AS v, w"},
		{"select * from t inner join u on a=b", "SELECT * FROM t JOIN u ON a = b"},
		{"select * from t join u v on a or b", "SELECT * FROM t JOIN u AS v ON a OR b"},
		{"select * from t left join u on true,v left join w x on null join y on z", "SELECT * FROM t LEFT JOIN u ON TRUE, v LEFT JOIN w AS x ON NULL JOIN y ON z"},
		{"select * where a or b", "SELECT * WHERE a OR b"},
		{"select a from t where b group by c having d", "SELECT a FROM t WHERE b GROUP BY c HAVING d"},
		{"select a group by a+1,b or c", "SELECT a GROUP BY a + 1, b OR c"},
		{"select a having count(*)>1", "SELECT a HAVING COUNT(*) > 1"},
		{"select 1 union all select 2 union select 3 intersect select 4 except select distinct 5 from t", "SELECT 1 UNION ALL SELECT 2 UNION SELECT 3 INTERSECT SELECT 4 EXCEPT SELECT DISTINCT 5 FROM t"},
		{"select 1 order by 1", "SELECT 1 ORDER BY 1"},
		{"select 1 order by a asc,2 desc,b desc,\"1\",\"desc\" desc", "SELECT 1 ORDER BY a, 2 DESC, b DESC, \"1\", \"desc\" DESC"},
		{"select 1 limit 0", "SELECT 1 LIMIT 0"},
		{"select 1 limit 5 offset 0", "SELECT 1 LIMIT 5"},
		{"select 1 limit 9223372036854775807 offset 1", "SELECT 1 LIMIT 9223372036854775807 OFFSET 1"},
		{"select 1 union select 2 order by 1 limit 3 offset 4", "SELECT 1 UNION SELECT 2 ORDER BY 1 LIMIT 3 OFFSET 4"},
		{"select distinct a as b from t as u join v on c where d group by e having f order by g desc limit 1 offset 2", "SELECT DISTINCT a AS b FROM t AS u JOIN v ON c WHERE d GROUP BY e HAVING f ORDER BY g DESC LIMIT 1 OFFSET 2"},
	} {
		putQuery(t, x[0], x[1])
	}
	isQuery(t, all("stock"), "SELECT * FROM stock")
}

// TestPr1Function: each function's name, and of others none.
func TestPr1Function(t *testing.T) {
	for op := range 2 * api.DoGreatest {
		want := ""
		if op >= api.DoCountAll {
			want = opWords[op]
		}
		if got := print.Function(op); got != want {
			t.Errorf("Function(%d): %q; want %q", op, got, want)
		}
	}
	for _, op := range []int{api.MinInt, -1, -api.DoSum, api.MaxInt, 1 << 32, 1<<32 + api.DoSum} {
		if got := print.Function(op); got != "" {
			t.Errorf("Function(%d): %q", op, got)
		}
	}
}
