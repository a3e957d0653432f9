package parse_test

import (
	"fmt"
	"strings"
	"testing"
	"unsafe"

	"quayside/api"
	"quayside/parse"
)

// callAll is what every call of the layer answers at a text.
func callAll(s string) string {
	q, k, e := parse.Query(s)
	x, n, f := parse.Expr(s)
	return fmt.Sprint(showQuery(q), k, e, showExpr(x), n, f, parse.Deep(x))
}

// oddTexts are what no caller should hand in, and what one may.
func oddTexts() []string {
	l := []string{"", "\x00", "\xff\xfe", "a\xc3", "SELECT", "SELECT 1", "SELECT * FROM t", "1", "a", "-", "- -", "--", "NOT", "(", ")", "((", "))", "()", "f(", "f()", "ABS(", "ABS()", "ABS(1", "ABS(1)", "COUNT(*)", "COUNT(*", "a.", ".", ",", "a IS", "a IS NOT", "a NOT", "a IN (", "a IN (SELECT", "a BETWEEN", "a BETWEEN 1 AND", "CASE", "CASE WHEN 1 THEN 2", "CASE WHEN 1 THEN 2 END", "EXISTS", "EXISTS(", "SELECT 1 UNION", "SELECT 1 ORDER", "SELECT 1 LIMIT", "SELECT 1 LIMIT 1 OFFSET", "SELECT 1 FROM t LEFT", "SELECT 1 FROM t JOIN u", "9223372036854775807", "-9223372036854775808", "'", "\"", ";"}
	for _, s := range []string{"(", "NOT ", "- ", "-", "ABS(", "COALESCE(1,", "1+", "1 OR ", "a IN (", "(SELECT ", "EXISTS(SELECT ", "SELECT 1 UNION ", "CASE WHEN ", "CASE ", "1,", "a.", "a ", "f(", "a BETWEEN ", "a BETWEEN 1 AND ", "WHEN 1 THEN ", ")", "1 IN (1,", "SELECT 1 ORDER BY 1, ", "SELECT * FROM t JOIN u ON ", "t, "} {
		for _, n := range []int{15, 16, 17, 31, 32, 33, 34, 100, 4096} {
			l = append(l, strings.Repeat(s, n), strings.Repeat(s, n)+"1", "SELECT "+strings.Repeat(s, n), "SELECT * FROM "+strings.Repeat(s, n))
		}
	}
	return l
}

// TestR1: every call ends without a panic, at any text, and any expression.
func TestR1(t *testing.T) {
	defer func() {
		if r := recover(); r != nil {
			t.Error("panic:", r)
		}
	}()
	for _, s := range oddTexts() {
		callAll(s)
		for n := range min(len(s), 50) {
			callAll(s[:n])
			callAll(s[n:])
		}
	}
	for a := range 256 {
		for b := range 256 {
			callAll(string([]byte{byte(a), byte(b)}))
		}
	}
	for _, n := range []int{api.MinInt, -1, 0, 1, 8, 13, 14, api.MaxInt} {
		e := api.Expr{Kind: n, Op: n, Col: n, At: n, Val: api.Value{Kind: n, N: n}, Args: make([]api.Expr, 2), Sub: make([]api.Query, 2)}
		e.Args[0] = e
		parse.Deep(e)
	}
}

// TestR2: beside an error there is no query and no expression, though much of it was read; beside ErrFull of the whole there is no place, beside others it is in the text; beside a query and an expression there is none.
func TestR2(t *testing.T) {
	told := map[api.Errno]int{}
	for _, s := range oddTexts() {
		for _, s := range []string{s, "SELECT 1, " + s, "SELECT a, b FROM t WHERE c IN (1, 2) AND " + s, s + " )", "(" + s + ")", s + " !"} {
			q, k, e := parse.Query(s)
			told[e]++
			if empty := len(q.Selects) == 0; empty != (e != api.OK) || empty && (q.Limit != 0 || q.Offset != 0 || len(q.Order) > 0) {
				t.Errorf("Query(%.60q): error %d beside %.200s", s, e, showQuery(q))
			}
			if k < 0 || k > len(s) || k > 0 && (e == api.OK || len(s) > api.MaxQuery) {
				t.Errorf("Query(%.60q) of %d bytes: %d, error %d", s, len(s), k, e)
			}
			x, k, e := parse.Expr(s)
			told[e]++
			if empty := x.Kind == 0; empty != (e != api.OK) || empty && showExpr(x) != showExpr(api.Expr{}) {
				t.Errorf("Expr(%.60q): error %d beside %.200s", s, e, showExpr(x))
			}
			if k < 0 || k > len(s) || k > 0 && (e == api.OK || len(s) > api.MaxQuery) {
				t.Errorf("Expr(%.60q) of %d bytes: %d, error %d", s, len(s), k, e)
			}
		}
	}
	for _, e := range []api.Errno{api.OK, api.ErrFull, api.ErrLex, api.ErrParse, api.ErrDeep} {
		if told[e] < 10 || len(told) != 5 {
			t.Errorf("told were: %v", told)
		}
	}
}

// TestR3: what stands behind a text's end, and behind that of a list, is not read.
func TestR3(t *testing.T) {
	reads(t, "1 + 2 * 3"[:5], "(+@0 1@0 2@4)")
	reads(t, "a.bc"[:3], "a.b@0")
	reads(t, "sum(1)"[:3], "sum@0")
	reads(t, "- 12"[:3], "-1@0")
	refused(t, "a IS NULL"[:4], 4)
	refused(t, "ABS(1)"[:5], 5)
	queries(t, "SELECT 1 LIMIT 12 OFFSET 3"[:16], "{1@7 LIMIT 1}")
	queries(t, "SELECT a, b"[:8], "{a@7}")
	wrongQuery(t, "SELECT a, b"[:9], 9, api.ErrParse)
	args := []api.Expr{{}, nested(9, api.ExUnary)}
	isDeep(t, "the first one alone", api.Expr{Args: args[:1]}, 2)
	isDeep(t, "none of both", api.Expr{Args: args[:0]}, 1)
	parse.Deep(api.Expr{Args: args})
	if showExpr(args[0]) != showExpr(api.Expr{}) || showExpr(args[1]) != showExpr(nested(9, api.ExUnary)) {
		t.Error("Deep changed what it was given:", showExpr(args[1]))
	}
}

// all is a query with each of what there is.
const all = "SELECT DISTINCT a AS b, t.c, *, COUNT(*), SUM(x) + -1 FROM t u, v LEFT JOIN w AS \"x y\" ON a = 'it''s' AND NOT b " +
	"WHERE c IN (1, 2) OR d NOT IN (SELECT e FROM f) AND g BETWEEN 1 AND 2 AND h LIKE 'i' AND (SELECT j) IS NULL AND EXISTS (SELECT k) " +
	"GROUP BY l, m || n HAVING CASE WHEN o THEN p ELSE q END = COALESCE(r, s) UNION ALL SELECT 1 EXCEPT SELECT 2 ORDER BY b DESC, 1 LIMIT 5 OFFSET 6"

// spoilExprs puts another thing in place of all in some lists, and in the room behind them.
func spoilExprs(lists ...[]api.Expr) {
	for _, l := range lists {
		for k := range l {
			spoilExprs(l[k].Args)
			spoilQueries(l[k].Sub)
			l[k] = api.Expr{Kind: -1, Name: "spoilt"}
		}
		_ = append(l, api.Expr{Kind: -2, Name: "spoilt"})
	}
}

func spoilQueries(l []api.Query) {
	for k := range l {
		for i := range l[k].Selects {
			s := &l[k].Selects[i]
			for j := range s.Items {
				spoilExprs(s.Items[j].Expr.Args)
				spoilQueries(s.Items[j].Expr.Sub)
				s.Items[j] = api.Item{As: "spoilt"}
			}
			for j := range s.From {
				spoilExprs(s.From[j].On)
				s.From[j] = api.Source{Table: "spoilt"}
			}
			_, _ = append(s.Items, api.Item{As: "spoilt"}), append(s.From, api.Source{As: "spoilt"})
			spoilExprs(s.Where, s.Group, s.Having)
			*s = api.Select{How: 1}
		}
		for i := range l[k].Order {
			l[k].Order[i] = api.Key{Name: "spoilt"}
		}
		_, _ = append(l[k].Order, api.Key{Name: "spoilt"}), append(l[k].Selects, api.Select{How: 2})
		l[k] = api.Query{Limit: 9}
	}
}

// TestR3Lists: the lists of an answer may be changed, and those of no other one are changed by it.
func TestR3Lists(t *testing.T) {
	first, k, e := parse.Query(all)
	if e != api.OK {
		t.Fatal(k, e)
	}
	was := showQuery(first)
	second, _, _ := parse.Query(all)
	spoilQueries([]api.Query{first})
	if got := showQuery(second); got != was {
		t.Errorf("another answer is %s now, and was %s", got, was)
	}
	third, _, _ := parse.Query(all)
	if got := showQuery(third); got != was {
		t.Errorf("it is %s then, and was %s", got, was)
	}
	a, _, _ := parse.Expr("a + b * c IN (1, 2, (SELECT 3))")
	was = showExpr(a)
	b, _, _ := parse.Expr("a + b * c IN (1, 2, (SELECT 3))")
	spoilExprs(a.Args)
	if got := showExpr(b); got != was {
		t.Errorf("another answer is %s now, and was %s", got, was)
	}
}

// exprLists are all lists of expressions in some, each with its room.
func exprLists(l []api.Expr) [][]api.Expr {
	lists := [][]api.Expr{l[:len(l):cap(l)]}
	for _, e := range l {
		lists = append(lists, exprLists(e.Args)...)
		for _, q := range e.Sub {
			for _, s := range q.Selects {
				lists = append(lists, exprLists(append(append([]api.Expr{{Args: s.Where}}, api.Expr{Args: s.Group}), api.Expr{Args: s.Having}))...)
				for _, i := range s.Items {
					lists = append(lists, exprLists([]api.Expr{i.Expr})...)
				}
				for _, f := range s.From {
					lists = append(lists, exprLists(f.On)...)
				}
			}
		}
	}
	return lists
}

// TestR3Apart: no two lists of an answer share memory, their room among it.
func TestR3Apart(t *testing.T) {
	x, _, e := parse.Expr("EXISTS (" + all + ")")
	if e != api.OK {
		t.Fatal(e)
	}
	met := map[*api.Expr]int{}
	for k, l := range exprLists([]api.Expr{x}) {
		l = l[:cap(l)]
		for i := range l {
			if other, is := met[&l[i]]; is {
				t.Fatalf("the lists %d and %d share memory", other, k)
			}
			met[&l[i]] = k
		}
	}
	if len(met) < 60 {
		t.Errorf("there are but %d expressions", len(met))
	}
}

// TestR3Kept: nothing of a text that was handed in is kept in an answer: its bytes may become others then.
func TestR3Kept(t *testing.T) {
	for _, s := range []string{all, "SELECT abc", "SELECT 'abc'", `SELECT "a""b" FROM "c d"`} {
		l := []byte(s)
		q, _, e := parse.Query(unsafe.String(&l[0], len(l)))
		was := strings.Clone(showQuery(q))
		clear(l)
		if got := showQuery(q); got != was || e != api.OK {
			t.Errorf("%q was %s, and is %s now", s, was, got)
		}
	}
	l := []byte("abc.def || 'ghi' LIKE \"j k\"")
	x, _, e := parse.Expr(unsafe.String(&l[0], len(l)))
	was := strings.Clone(showExpr(x))
	clear(l)
	if got := showExpr(x); got != was || e != api.OK {
		t.Errorf("it was %s, and is %s now", was, got)
	}
}

// TestR4: what is asked again is answered the same, whatever was asked between.
func TestR4(t *testing.T) {
	texts := append(oddTexts(), all, all+" )", all+" !")
	var first []string
	for _, s := range texts {
		first = append(first, callAll(s))
	}
	for k := len(texts) - 1; k >= 0; k-- {
		if again := callAll(texts[k]); again != first[k] {
			t.Errorf("at %.80q: %.200s, then %.200s", texts[k], first[k], again)
		}
	}
}
