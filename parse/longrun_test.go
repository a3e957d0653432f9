package parse_test

import (
	"reflect"
	"strings"
	"testing"

	"quayside/api"
	"quayside/parse"
)

// agrees tells whether a text is read as by the grammar, as a query and as an expression, and which error each of them is.
func agrees(t *testing.T, s string) (asQuery, asExpr api.Errno, same bool) {
	t.Helper()
	q, k, e := parse.Query(s)
	wantQuery, at, want := plainQuery(s)
	same = k == at && e == want && reflect.DeepEqual(q, wantQuery)
	if !same {
		t.Errorf("Query(%.300q): %.300s, %d, error %d; want %.300s, %d, error %d", s, showQuery(q), k, e, showQuery(wantQuery), at, want)
	}
	x, k, f := parse.Expr(s)
	wantExpr, at, want := plainExpr(s)
	if k != at || f != want || !reflect.DeepEqual(x, wantExpr) {
		t.Errorf("Expr(%.300q): %.300s, %d, error %d; want %.300s, %d, error %d", s, showExpr(x), k, f, showExpr(wantExpr), at, want)
		same = false
	}
	return e, f, same
}

// agreeAll tells of all texts of so many of some words, behind a beginning, whether they are read as by the grammar, up to the first one that is not.
func agreeAll(t *testing.T, ahead string, words []string, many int) bool {
	t.Helper()
	if _, _, same := agrees(t, ahead); !same {
		return false
	}
	if many == 0 {
		return true
	}
	for _, word := range words {
		if !agreeAll(t, ahead+word+" ", words, many-1) {
			return false
		}
	}
	return true
}

// TestPa1Short: all texts of up to four tokens, of those that tell the rules of the grammar apart, are read as by the grammar.
func TestPa1Short(t *testing.T) {
	agreeAll(t, "", strings.Fields("1 0 'x' a ABS ( ) , . * - + = NOT AND IS NULL IN LIKE BETWEEN CASE SELECT FROM"), 4)
}

// TestPa1ShortBehind: likewise all of up to three tokens behind beginnings of longer ones.
func TestPa1ShortBehind(t *testing.T) {
	words := strings.Fields("1 a * ( ) , NOT IN AS ON JOIN LEFT INNER FROM WHERE GROUP BY ORDER DESC LIMIT OFFSET UNION ALL SELECT WHEN THEN ELSE END")
	for _, ahead := range []string{"SELECT a ", "SELECT * FROM t ", "SELECT * FROM t JOIN u ON a ", "SELECT a GROUP BY a ", "SELECT 1 ORDER BY 1 ", "SELECT 1 LIMIT 1 ", "CASE WHEN a ", "a IN ( ", "EXISTS ( SELECT 1 ", "COALESCE ( "} {
		if !agreeAll(t, ahead, words, 3) {
			return
		}
	}
}

// TestPa1Run: a long run of texts that are made by the grammar, some with other tokens put in, against the grammar.
func TestPa1Run(t *testing.T) {
	x := dice(2026)
	asQuery, asExpr := map[api.Errno]int{}, map[api.Errno]int{}
	for k := range 24000 {
		m := &maker{dice: &x, left: 1 + x.below(8<<(k%6)), often: 1 + x.below(3), wide: k%7 == 0}
		m.make(&form{how: "rule", text: []string{"expr", "query"}[k%2]})
		if k%3 == 0 {
			m.spoil()
		}
		e, f, same := agrees(t, m.text())
		if !same {
			return
		}
		asQuery[e]++
		asExpr[f]++
	}
	for e, least := range map[api.Errno]int{api.OK: 5000, api.ErrLex: 100, api.ErrParse: 10000, api.ErrFull: 200, api.ErrDeep: 100} {
		if asQuery[e] < least || asExpr[e] < least {
			t.Errorf("told were of queries %v, of expressions %v", asQuery, asExpr)
		}
	}
}
