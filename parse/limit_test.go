package parse_test

import (
	"strings"
	"testing"

	"quayside/api"
	"quayside/parse"
)

// TestPa1Full: of each list as many as may be, and one more, which is told where it begins.
func TestPa1Full(t *testing.T) {
	for _, x := range []struct {
		ahead, one, between, behind string
		most                        int
	}{
		{"SELECT ", "*", ",", "", 16},
		{"SELECT ", "1", ",", "", 16},
		{"SELECT DISTINCT ", "a AS b", ", ", " FROM t", 16},
		{"SELECT ", "(1)", ",", "", 16},
		{"SELECT ", "NOT a", ",", "", 16},
		{"SELECT ", "-1", ",", "", 16},
		{"SELECT ", "- a", ",", "", 16},
		{"SELECT ", "COUNT(*)", ",", "", 16},
		{"SELECT ", "(SELECT 1)", ",", "", 16},
		{"SELECT ", "CASE WHEN 1 THEN 2 END", ",", "", 16},
		{"SELECT ", "EXISTS (SELECT 1)", ",", "", 16},
		{"SELECT * FROM ", "t", ",", "", 6},
		{"SELECT * FROM ", "t AS u", ", ", " WHERE a", 6},
		{"SELECT * FROM t JOIN ", "u ON 1", " JOIN ", "", 5},
		{"SELECT * FROM t INNER JOIN ", "u v ON 1", " INNER JOIN ", "", 5},
		{"SELECT * FROM t, u LEFT JOIN ", "v ON 1", " LEFT JOIN ", "", 4},
		{"SELECT * FROM t LEFT JOIN u ON 1, ", "v", ", ", "", 4},
		{"SELECT 1 GROUP BY ", "a", ",", "", 16},
		{"SELECT 1 FROM t WHERE 2 GROUP BY ", "(a)", ",", " HAVING 3", 16},
		{"SELECT 1 ORDER BY ", "1", ",", "", 16},
		{"SELECT 1 ORDER BY ", "a DESC", ", ", " LIMIT 1", 16},
		{"", "SELECT 1", " UNION ", "", 8},
		{"", "SELECT *", " UNION ALL ", " ORDER BY 1", 8},
		{"SELECT a FROM t EXCEPT ", "SELECT 1", " INTERSECT ", "", 7},
		{"SELECT COALESCE(", "a", ",", ")", 16},
		{"SELECT LEAST(", "(a)", ", ", ")", 16},
		{"SELECT GREATEST(", "NOT a", ", ", ")", 16},
		{"SELECT a IN (", "1", ",", ")", 16},
		{"SELECT a NOT IN (", "(SELECT 1)", ",", ")", 16},
		{"SELECT CASE ", "WHEN 1 THEN 2", " ", " END", 16},
		{"SELECT CASE ", "WHEN 1 THEN 2", " ", " ELSE 3 END", 16},
		{"SELECT EXISTS (SELECT ", "1", ",", ")", 16},
		{"SELECT (SELECT 1 ORDER BY ", "1", ",", ")", 16},
		{"SELECT a IN (", "SELECT 1", " UNION ", ")", 8},
		{"SELECT (SELECT 1 FROM ", "t", ",", ")", 6},
	} {
		where := len(x.ahead) + x.most*(len(x.one)+len(x.between))
		answered(t, x.ahead+many(x.most, x.one, x.between)+x.behind)
		wrongQuery(t, x.ahead+many(x.most+1, x.one, x.between)+x.behind, where, api.ErrFull)
		wrongQuery(t, x.ahead+many(x.most+1, x.one, x.between), where, api.ErrFull)
		wrongQuery(t, x.ahead+many(x.most+3, x.one, x.between)+x.behind+" )", where, api.ErrFull)
	}
	wrongQuery(t, "SELECT * FROM a, b JOIN c ON 1 LEFT JOIN d ON 2, e INNER JOIN f ON 3, g", 70, api.ErrFull)
	wrongQuery(t, "SELECT * FROM a, b JOIN c ON 1 LEFT JOIN d ON 2, e INNER JOIN f ON 3 LEFT JOIN g ON 4", 79, api.ErrFull)
}

// TestPa1FullEach: each list counts its own alone.
func TestPa1FullEach(t *testing.T) {
	items := many(16, "1", ",")
	full := "SELECT " + items + " FROM " + many(6, "t", ",") + " GROUP BY " + items
	for _, s := range []string{
		many(8, full, " UNION ") + " ORDER BY " + many(16, "1", ","),
		"SELECT (" + full + "), (" + full + ") FROM " + many(6, "t", ",") + " WHERE (" + full + ") IN (" + items + ")",
		"SELECT COALESCE(" + items + ") + COALESCE(" + items + "), a IN (" + items + ") AND b IN (" + items + ")",
		"SELECT COALESCE(" + many(15, "1", ",") + ", COALESCE(" + items + ")), " + many(15, "COALESCE("+items+")", ","),
		"SELECT CASE " + many(16, "WHEN 1 THEN 2", " ") + " ELSE CASE " + many(16, "WHEN 1 THEN 2", " ") + " END END",
		"SELECT " + many(8, "a IN ("+many(4, "SELECT 1", " EXCEPT ")+")", ", "),
	} {
		answered(t, s)
	}
}

// deeps are ways in which an expression is one deeper, by what stands on both sides of it.
var deeps = []struct {
	ahead, behind string
	at            int // how far behind the beginning it is that the whole begins
}{
	{"", " + 1", 0}, {"", " - a", 0}, {"", " || 'a'", 0}, {"", " * 2", 0}, {"", " / 2", 0}, {"", " % 2", 0},
	{"1 + ", "", 0}, {"1 * ", "", 0}, {"1 = ", "", 0}, {"", " < 1", 0}, {"", " OR 1", 0}, {"", " AND 1", 0}, {"1 OR ", "", 0}, {"1 AND ", "", 0},
	{"", " IS NULL", 0}, {"", " IS NOT NULL", 0}, {"", " BETWEEN 1 AND 2", 0}, {"1 NOT BETWEEN ", " AND 2", 0}, {"1 BETWEEN 2 AND ", "", 0},
	{"", " LIKE 'a'", 0}, {"'a' NOT LIKE ", "", 0}, {"", " IN (1)", 0}, {"", " NOT IN (1, 2)", 0}, {"", " IN (SELECT 1)", 0}, {"1 IN (", ")", 0}, {"1 IN (2, ", ", 3)", 0},
	{"NOT ", "", 0}, {"- ", "", 0}, {"ABS(", ")", 0}, {"SUM(", ")", 0}, {"COALESCE(1, ", ", 2)", 0}, {"SUBSTR('a', 1, ", ")", 0}, {"NULLIF(", ", 1)", 0},
	{"CASE WHEN ", " THEN 1 END", 0}, {"CASE WHEN 1 THEN ", " END", 0}, {"CASE WHEN 1 THEN 2 ELSE ", " END", 0}, {"CASE WHEN 1 THEN 2 WHEN ", " THEN 3 ELSE 4 END", 0},
}

// chain is a chain that is so deep, between brackets if it is one.
func chain(deep int) string {
	if deep == 1 {
		return "1"
	}
	return "(" + many(deep, "1", "+") + ")"
}

// TestPa1Deep: an expression of 32 is read, one of 33 is told where it begins, in each way of being deep.
func TestPa1Deep(t *testing.T) {
	for _, sign := range []string{"+", "-", "||", "*", "/", "%", " OR ", " AND "} {
		for _, n := range []int{1, 2, 31, 32} {
			s := many(n, "a", sign)
			if x, k, e := parse.Expr(s); e != api.OK || parse.Deep(x) != n {
				t.Errorf("%d of %q: %d deep, %d, error %d", n, sign, parse.Deep(x), k, e)
			}
		}
		for _, n := range []int{33, 34, 100, 400} {
			wrongExpr(t, many(n, "a", sign), 0, api.ErrDeep)
			wrongExpr(t, " ("+many(n, "a", sign)+")", 2, api.ErrDeep)
			wrongExpr(t, "1 = ("+many(n, "a", sign)+" + 1)", 5, api.ErrDeep)
			wrongExpr(t, "((a)"+sign+many(n-1, "a", sign)+")", 2, api.ErrDeep)
			wrongQuery(t, "SELECT 1, "+many(n, "a", sign), 10, api.ErrDeep)
		}
	}
	for _, way := range deeps {
		s := way.ahead + chain(31) + way.behind
		if x, k, e := parse.Expr(s); e != api.OK || parse.Deep(x) != 32 {
			t.Errorf("%q: %d deep, %d, error %d", s, parse.Deep(x), k, e)
		}
		s = way.ahead + chain(32) + way.behind
		where := 0
		if way.ahead == "" {
			where = 1
		}
		wrongExpr(t, s, where, api.ErrDeep)
		wrongExpr(t, "( "+s+" )", 2+where, api.ErrDeep)
		wrongExpr(t, s+" 1", where, api.ErrDeep)
		wrongQuery(t, "SELECT 1 WHERE "+s, 15+where, api.ErrDeep)
	}
	wrongExpr(t, "ABS(0) + "+many(17, "1", "+")+" = 1 + "+many(32, "1", "+"), 9+17*2-1+3, api.ErrDeep)
}

// TestPa1DeepSub: a sub-query counts as one, however deep what it asks is.
func TestPa1DeepSub(t *testing.T) {
	for _, sub := range []string{"(SELECT " + many(32, "1", "+") + ")", "EXISTS (SELECT 1 WHERE " + many(32, "1", "+") + ")"} {
		for _, n := range []int{1, 31, 32} {
			s := strings.TrimSuffix(sub+"+"+many(n-1, "1", "+"), "+")
			if x, k, e := parse.Expr(s); e != api.OK || parse.Deep(x) != n {
				t.Errorf("%q: %d deep, %d, error %d", s, parse.Deep(x), k, e)
			}
		}
		where := strings.Index(sub, "SELECT")
		if sub[0] == 'E' {
			where = 0
		}
		wrongExpr(t, sub+"+"+many(32, "1", "+"), where, api.ErrDeep)
	}
	for _, n := range []int{1, 30, 31} {
		s := chain(n) + " IN (SELECT " + many(32, "1", "+") + ")"
		if x, k, e := parse.Expr(s); e != api.OK || parse.Deep(x) != n+1 {
			t.Errorf("%q: %d deep, %d, error %d", s, parse.Deep(x), k, e)
		}
	}
	wrongExpr(t, chain(32)+" IN (SELECT 1)", 1, api.ErrDeep)
	wrongExpr(t, "1 IN (SELECT "+many(33, "1", "+")+")", 13, api.ErrDeep)
}

// nests are ways in which an expression is within another one: by how many it is deeper within, and where the first ones begin that are.
var nests = []struct {
	ahead, behind string
	begins        []int
}{
	{"(", ")", []int{1}},
	{"NOT ", "", []int{0}},
	{"- ", "", []int{0}},
	{"ABS(", ")", []int{4}},
	{"COALESCE(1, ", ")", []int{9}},
	{"1 IN (", ")", []int{6}},
	{"1 NOT IN (2, ", ")", []int{10}},
	{"CASE WHEN ", " THEN 1 END", []int{10}},
	{"CASE WHEN 1 THEN ", " END", []int{10}},
	{"CASE WHEN 1 THEN 2 ELSE ", " END", []int{10}},
	{"(SELECT ", ")", []int{1, 8}},
	{"(SELECT *, ", ")", []int{1, 11}},
	{"(SELECT 1 WHERE ", ")", []int{1, 8}},
	{"(SELECT * WHERE ", ")", []int{1, 16}},
	{"(SELECT * GROUP BY ", ")", []int{1, 19}},
	{"(SELECT * HAVING ", ")", []int{1, 17}},
	{"(SELECT * FROM t JOIN u ON ", ")", []int{1, 27}},
	{"EXISTS (SELECT ", ")", []int{8, 15}},
	{"1 IN (SELECT ", ")", []int{6, 13}},
	{"(SELECT 1 UNION SELECT ", ")", []int{1, 8}},
	{"(SELECT * UNION SELECT ", ")", []int{1, 23}},
}

// TestPa1Within: 32 may be within one another; where the 33rd begins is told, whatever it is.
func TestPa1Within(t *testing.T) {
	for n := range 33 {
		ahead, behind := many(n, "(", ""), many(n, ")", "")
		for _, way := range nests {
			s := ahead + way.ahead + "a" + way.behind + behind
			if 1+n+len(way.begins) <= 32 {
				shown(t, s)
				continue
			}
			where := n
			if n < 32 {
				where += way.begins[31-n]
			}
			wrongExpr(t, s, where, api.ErrDeep)
			wrongExpr(t, s+" )", where, api.ErrDeep)
			wrongQuery(t, "SELECT 1, ("+s, len("SELECT 1, ")+min(31, 1+where), api.ErrDeep)
		}
	}
}

// within puts one way within what is ahead of it: the text, and where those begin that are within one another. What binds weaker than a minus stands between brackets behind it.
func within(s string, begins []int, ahead string, own []int) (string, []int) {
	if strings.HasSuffix(s, "- ") && (ahead[0] == 'N' || ahead[0] == '1') {
		s += "("
		begins = append(begins, len(s))
	}
	for _, at := range own {
		begins = append(begins, len(s)+at)
	}
	return s + ahead, begins
}

// TestPa1WithinAll: the same of any two ways in turns; of a query, it is the first one itself.
func TestPa1WithinAll(t *testing.T) {
	for _, first := range nests {
		for _, second := range nests {
			s, begins := "", []int{0}
			for len(begins) < 40 {
				s, begins = within(s, begins, first.ahead, first.begins)
				s, begins = within(s, begins, second.ahead, second.begins)
			}
			wrongExpr(t, s, begins[32], api.ErrDeep)
			wrongExpr(t, s+"a", begins[32], api.ErrDeep)
			wrongQuery(t, "SELECT "+s, 7+begins[31], api.ErrDeep)
		}
	}
	for _, way := range nests {
		n := 31 / len(way.begins)
		shown(t, many(n, way.ahead, "")+"a"+many(n, way.behind, ""))
		n = 30 / len(way.begins)
		answered(t, "SELECT "+many(n, way.ahead, "")+"a"+many(n, way.behind, ""))
	}
}

// TestPa1WithinNot: a minus ahead of a number is none of them, nor is a NOT behind an expression, nor what stands beside.
func TestPa1WithinNot(t *testing.T) {
	for _, s := range []string{"-1", "- 1", "a IS NOT NULL", "a NOT LIKE b", "a NOT BETWEEN 1 AND 2", "1 - 1", "-1 - -1", "COUNT(*)", "a.b", "'a'"} {
		for _, ahead := range []string{many(31, "(", ""), many(30, "(", "") + "NOT ", many(15, "(SELECT ", "") + "(", many(29, "NOT ", "") + "(("} {
			shown(t, ahead+s+many(strings.Count(ahead, "("), ")", ""))
		}
	}
	shown(t, many(31, "- ", "")+"-1")
	shown(t, many(31, "(", "")+"-1"+many(31, ")", ""))
	wrongExpr(t, many(32, "- ", "")+"-1", 62, api.ErrDeep)
	shown(t, many(8, "("+many(20, "NOT ", "")+"a) = ("+many(20, "- ", "")+"b)", " OR "))
	shown(t, many(30, "("+many(29, "(", "")+"a"+many(29, ")", "")+")", " + "))
	answered(t, many(8, "SELECT "+many(16, "(SELECT (SELECT 1))", ","), " UNION "))
}
