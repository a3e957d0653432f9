package parse_test

import (
	"strings"
	"testing"

	"quayside/api"
	"quayside/lex"
)

// TestPa1Empty: of a text without tokens its end is what may not stand there.
func TestPa1Empty(t *testing.T) {
	for _, s := range []string{"", " ", "\n\t", "-- a", "/* a */", " /**/ -- \n "} {
		wrongExpr(t, s, len(s), api.ErrParse)
		wrongQuery(t, s, len(s), api.ErrParse)
	}
}

// TestPa1Behind: behind the whole stands nothing but blanks and remarks.
func TestPa1Behind(t *testing.T) {
	for _, s := range []string{"1", "a.b", "(1)", "-1", "a IS NULL", "COUNT(*)", "CASE WHEN 1 THEN 1 END", "a IN (1)", "EXISTS (SELECT 1)"} {
		reads(t, s+" /**/ -- \n", shown(t, s))
		for _, more := range []string{"1", "'a'", ")", "(", ",", ".", "SELECT", "TRUE", "ASC", "END", "AS", "a"} {
			if more == "." && s == "a.b" || more != "." || s != "a.b" {
				wrongExpr(t, s+" "+more, len(s)+1, api.ErrParse)
				wrongExpr(t, s+"/**/ "+more+" "+more, len(s)+5, api.ErrParse)
			}
		}
	}
	for _, s := range []string{"SELECT 1", "SELECT *", "SELECT a FROM t u", "SELECT a FROM t WHERE 1", "SELECT a FROM t JOIN u ON 1", "SELECT a GROUP BY 'a'", "SELECT a HAVING NULL", "SELECT a UNION SELECT 2", "SELECT a ORDER BY a DESC", "SELECT a LIMIT 1", "SELECT a LIMIT 1 OFFSET 2"} {
		for _, more := range []string{"1", "'a'", ")", "(", ".", "SELECT", "TRUE", "ASC", "END", "BY", "a", "ON"} {
			wrongQuery(t, s+" "+more, len(s)+1, api.ErrParse)
			wrongQuery(t, s+"-- x\n"+more+" "+more, len(s)+5, api.ErrParse)
		}
	}
	wrongExpr(t, "SELECT 1", 0, api.ErrParse)
	wrongQuery(t, "1", 0, api.ErrParse)
	wrongQuery(t, "(SELECT 1)", 0, api.ErrParse)
	wrongQuery(t, "a", 0, api.ErrParse)
	wrongQuery(t, `"SELECT" 1`, 0, api.ErrParse)
	wrongQuery(t, "'SELECT' 1", 0, api.ErrParse)
}

// TestPa1Kinds: names between quotes and texts are no key words, and no signs.
func TestPa1Kinds(t *testing.T) {
	for _, x := range []string{`"%s"`, `'%s'`} {
		as := func(word string) string { return put(strings.ReplaceAll(x, "%", "%[1]"), word) }
		for _, word := range []string{"OR", "AND", "=", "<>", "<", "<=", ">", ">=", "+", "-", "||", "*", "/", "%", "IS NULL", "IS", "IN", "LIKE", "BETWEEN"} {
			refused(t, "a "+as(word)+" b", 2)
		}
		refused(t, as("NOT")+" a", 6)
		refused(t, as("-")+" a", 4)
		refused(t, as("(")+" a )", 4)
		refused(t, "( a "+as(")"), 4)
		refused(t, "a IS "+as("NULL"), 5)
		refused(t, "a IS "+as("NOT")+" NULL", 5)
		refused(t, "a IN "+as("(")+"1)", 5)
		refused(t, "ABS(1"+as(")"), 5)
		refused(t, as("CASE")+" WHEN 1 THEN 1 END", 7)
		refused(t, "CASE WHEN 1 "+as("THEN")+" 1 END", 12)
		refused(t, as("ABS")+" 1", 6)
		refused(t, "EXISTS "+as("(")+"SELECT 1)", 7)
		wrongQuery(t, "SELECT 1 "+as("FROM")+" t", 9, api.ErrParse)
		wrongQuery(t, "SELECT 1 GROUP "+as("BY")+" t", 15, api.ErrParse)
		wrongQuery(t, "SELECT 1 "+as(",")+" t", 9, api.ErrParse)
		wrongQuery(t, "SELECT 1 "+as("LIMIT")+" 1", 9, api.ErrParse)
	}
	refused(t, `"EXISTS"(SELECT 1)`, 0)
	refused(t, "'EXISTS'(SELECT 1)", 8)
	reads(t, `"TRUE"`, "TRUE@0")
	reads(t, `COALESCE("*", '*', ")")`, "(COALESCE@0 *@9 '*'@14 )@19)")
	queries(t, `SELECT "*", "DISTINCT"`, "{*@7, DISTINCT@12}")
}

// TestPa1Lex: what the tokens are wrong with is told ahead of all else, wherever it is.
func TestPa1Lex(t *testing.T) {
	long := strings.Repeat("a", 65)
	for _, bad := range []string{"!", ";", "'a", `"a`, `""`, "/*", "007", "9223372036854775808", long, `"` + long + `"`, "'" + long + "'", "\x00", "\xff", "\u00e9"} {
		for _, ahead := range []string{"", " ", "1 + ", "a b c ", ") ", "f(1) ", "SELECT ", "SELECT SELECT ", "ABS() ", many(40, "(", "") + " ", "COALESCE(" + many(20, "1", ",") + ") "} {
			wrongExpr(t, ahead+bad, len(ahead), api.ErrLex)
			wrongQuery(t, ahead+bad, len(ahead), api.ErrLex)
			wrongExpr(t, ahead+bad+" ;", len(ahead), api.ErrLex)
			wrongQuery(t, ahead+bad+"\n) !", len(ahead), api.ErrLex)
			if _, k, e := lex.Tokens(ahead + bad); k != len(ahead) || e != api.ErrLex {
				t.Errorf("Tokens(%q): %d, error %d", ahead+bad, k, e)
			}
		}
	}
}

// TestPa1Long: a text of more bytes than a query may have is ErrFull, ahead of all else, and there is no place.
func TestPa1Long(t *testing.T) {
	for _, s := range []string{"", "a", "SELECT a", "a b", "a !", "!", "("} {
		wrongExpr(t, s+strings.Repeat(" ", 4097-len(s)), 0, api.ErrFull)
		wrongQuery(t, s+strings.Repeat(" ", 4097-len(s)), 0, api.ErrFull)
		wrongExpr(t, s+strings.Repeat("\n", 1<<16), 0, api.ErrFull)
		wrongQuery(t, strings.Repeat(" ", 1<<16)+s, 0, api.ErrFull)
	}
	reads(t, "a"+strings.Repeat(" ", 4071), "a@0")
	wrongExpr(t, strings.Repeat(" ", 4095)+",", 4095, api.ErrParse)
	wrongExpr(t, strings.Repeat(" ", 4095)+"!", 4095, api.ErrLex)
	wrongExpr(t, strings.Repeat(" ", 4096), 4096, api.ErrParse)
	if x := shown(t, strings.Repeat(" ", 4095)+"a"); x != "a@4095" {
		t.Error(x)
	}
	queries(t, "SELECT 1"+strings.Repeat(" ", 4079), "{1@7}")
	wrongQuery(t, "SELECT 1"+strings.Repeat(" ", 4087)+")", 4095, api.ErrParse)
}

// TestPa1First: where a text is wrong twice, the first place is told.
func TestPa1First(t *testing.T) {
	for _, x := range []struct {
		s     string
		where int
		err   api.Errno
	}{
		{"1 2 3", 2, api.ErrParse},
		{"(1 2", 3, api.ErrParse},
		{"ABS() 2", 0, api.ErrParse},
		{"1 + ABS() +", 4, api.ErrParse},
		{"ABS(1, 2 3)", 9, api.ErrParse},
		{"ABS(1, 2", 8, api.ErrParse},
		{"ABS(1, f(2)", 7, api.ErrParse},
		{"ABS(, f(2))", 4, api.ErrParse},
		{"f(1 2)", 0, api.ErrParse},
		{"f(" + many(40, "(", ""), 0, api.ErrParse},
		{"f(" + many(17, "1", ",") + ")", 0, api.ErrParse},
		{"ABS(" + many(17, "1", ",") + ")", 36, api.ErrFull},
		{"ABS(" + many(16, "1", ",") + ")", 0, api.ErrParse},
		{"ABS(" + many(16, "1", ",") + ",)", 36, api.ErrParse},
		{"ABS(" + many(16, "1", ",") + ",*)", 36, api.ErrParse},
		{"ABS(" + many(16, "1", ",") + ",f(1))", 36, api.ErrParse},
		{"ABS(" + many(16, "1", ",") + ",ABS())", 36, api.ErrFull},
		{"ABS(1, " + many(33, "1", "+") + ")", 7, api.ErrDeep},
		{"ABS(" + many(33, "1", "+") + ", 1)", 4, api.ErrDeep},
		{"ABS(" + many(32, "1", "+") + ", 1)", 0, api.ErrParse},
		{"ABS(" + many(32, "1", "+") + ")", 0, api.ErrDeep},
		{"NOT ABS(" + many(32, "1", "+") + ") )", 4, api.ErrDeep},
		{many(33, "1", "+") + " )", 0, api.ErrDeep},
		{many(33, "1", "+") + " +", 0, api.ErrDeep},
		{many(32, "1", "+") + " + )", 66, api.ErrParse},
		{many(32, "1", "+") + " + 1 * )", 70, api.ErrParse},
		{many(33, "1", "+") + " + f(1)", 0, api.ErrDeep},
		{many(32, "1", "+") + " + f(1)", 66, api.ErrParse},
		{many(32, "1", "+") + " + ABS()", 66, api.ErrParse},
		{many(32, "1", "+") + " IS 1", 67, api.ErrParse},
		{many(32, "1", "+") + " IS NULL 1", 0, api.ErrDeep},
		{many(33, "1", "+") + " IS 1", 0, api.ErrDeep},
		{"1 IN (" + many(17, "1", ",") + ", 2 3)", 38, api.ErrFull},
		{"1 IN (2 3, " + many(17, "1", ",") + ")", 8, api.ErrParse},
		{"1 IN (" + many(16, "1", ",") + ", )", 39, api.ErrParse},
		{"1 IN (" + many(16, "1", ",") + ", SELECT 1)", 39, api.ErrParse},
		{"1 IN (" + many(16, "1", ",") + ", f(1))", 39, api.ErrParse},
		{"1 IN (" + many(16, "1", ",") + ", (f(1)))", 39, api.ErrFull},
		{"1 IN (" + many(16, "1", ",") + ", NOT f(1))", 39, api.ErrFull},
		{many(32, "(", "") + ")", 32, api.ErrParse},
		{many(32, "(", "") + "*", 32, api.ErrParse},
		{many(32, "(", "") + "f(1)", 32, api.ErrParse},
		{many(32, "(", "") + "ABS()", 32, api.ErrDeep},
		{many(32, "(", "") + "(f(1)", 32, api.ErrDeep},
		{many(32, "(", "") + "SELECT", 32, api.ErrDeep},
		{many(32, "(", "") + "1 )", 32, api.ErrDeep},
		{many(30, "(", "") + "NOT )", 30 + 4, api.ErrParse},
		{many(30, "(", "") + "NOT f(1)", 30 + 4, api.ErrParse},
		{many(30, "(", "") + "NOT (f(1))", 30 + 5, api.ErrParse},
		{many(30, "(", "") + "NOT NOT )", 30 + 4, api.ErrDeep},
		{many(30, "(", "") + "- - )", 30 + 2, api.ErrDeep},
		{many(30, "(", "") + "- )", 30 + 2, api.ErrParse},
		{many(31, "(", "") + "NOT )", 31, api.ErrDeep},
		{many(31, "(", "") + "NOT", 31, api.ErrDeep},
		{many(31, "(", "") + "- )", 31, api.ErrDeep},
		{many(31, "(", "") + "-", 31, api.ErrDeep},
		{many(31, "(", "") + "COALESCE(" + many(17, "1", ",") + ")", 31 + 9, api.ErrDeep},
		{many(30, "(", "") + "COALESCE(" + many(17, "1", ",") + ")", 30 + 9 + 32, api.ErrFull},
		{many(30, "(", "") + "COALESCE(" + many(16, "1", ",") + ",(1))", 30 + 9 + 32, api.ErrFull},
		{many(30, "(", "") + "COALESCE(" + many(16, "1", ",") + ",NOT 1)", 30 + 9 + 32, api.ErrFull},
		{many(30, "(", "") + "COALESCE(" + many(16, "1", ",") + ",- a)", 30 + 9 + 32, api.ErrFull},
		{many(30, "(", "") + "COALESCE(" + many(15, "1", ",") + ",NOT 1)", 30 + 9 + 30, api.ErrDeep},
		{many(31, "(", "") + "SELECT " + many(16, "*", ",") + ",1", 31 + 7 + 32, api.ErrFull},
		{many(31, "(", "") + "SELECT " + many(15, "*", ",") + ",1", 31 + 7 + 30, api.ErrDeep},
		{"CASE WHEN 1 THEN 2 " + many(16, "WHEN", " "), 24, api.ErrParse},
		{"CASE " + many(16, "WHEN 1 THEN 2", " ") + " WHEN )", 229, api.ErrFull},
		{"CASE " + many(16, "WHEN 1 THEN 2", " ") + " THEN", 229, api.ErrParse},
	} {
		wrongExpr(t, x.s, x.where, x.err)
	}
	for _, x := range []struct {
		s     string
		where int
		err   api.Errno
	}{
		{"SELECT a b FROM", 9, api.ErrParse},
		{"SELECT " + many(16, "1", ",") + ", FROM t", 40, api.ErrParse},
		{"SELECT " + many(16, "1", ",") + ", f(1)", 40, api.ErrParse},
		{"SELECT " + many(16, "1", ",") + ", *", 40, api.ErrFull},
		{"SELECT " + many(16, "1", ",") + ", 1 2", 40, api.ErrFull},
		{"SELECT * FROM " + many(6, "t", ",") + ", 1", 27, api.ErrParse},
		{"SELECT * FROM " + many(6, "t", ",") + ", JOIN", 27, api.ErrParse},
		{"SELECT * FROM " + many(6, "t", ",") + " JOIN ON 1", 31, api.ErrParse},
		{"SELECT * FROM " + many(6, "t", ",") + " LEFT u", 31, api.ErrParse},
		{"SELECT * FROM " + many(6, "t", ",") + ", u(1)", 27, api.ErrFull},
		{many(8, "SELECT 1", " UNION ") + " UNION 1", 120, api.ErrParse},
		{many(8, "SELECT 1", " UNION ") + " UNION SELECT", 120, api.ErrFull},
		{"SELECT 1 ORDER BY " + many(16, "a", ",") + ", 0", 51, api.ErrParse},
		{"SELECT 1 ORDER BY " + many(16, "a", ",") + ", -1", 51, api.ErrParse},
		{"SELECT 1 ORDER BY " + many(16, "a", ",") + ", 1 2", 51, api.ErrFull},
		{"SELECT 1 ORDER BY " + many(16, "a", ",") + ", f(1)", 51, api.ErrFull},
		{"SELECT 1 GROUP BY " + many(16, "a", ",") + ", f(1)", 51, api.ErrParse},
		{"SELECT 1 GROUP BY " + many(16, "a", ",") + ", ABS()", 51, api.ErrFull},
		{"SELECT " + many(33, "1", "+") + ", f(1)", 7, api.ErrDeep},
		{"SELECT f(1), " + many(33, "1", "+"), 7, api.ErrParse},
	} {
		wrongQuery(t, x.s, x.where, x.err)
	}
}
