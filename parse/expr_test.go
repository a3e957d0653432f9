package parse_test

import (
	"testing"

	"quayside/api"
)

// TestPa1Example: the one of the chapter.
func TestPa1Example(t *testing.T) {
	reads(t, "1 + 2 * 3", "(+@0 1@0 (*@4 2@4 3@8))")
}

// TestPa1Atom: each of the ways of an atom but functions.
func TestPa1Atom(t *testing.T) {
	for _, x := range [][2]string{
		{"0", "0@0"},
		{"7", "7@0"},
		{"  42  ", "42@2"},
		{"9223372036854775807", "9223372036854775807@0"},
		{"''", "''@0"},
		{"'it''s'", "'it's'@0"},
		{"/* x */'('", "'('@7"},
		{"'OR'", "'OR'@0"},
		{"TRUE", "TRUE@0"},
		{"true", "TRUE@0"},
		{"FALSE", "FALSE@0"},
		{"falsE", "FALSE@0"},
		{"NULL", "NULL@0"},
		{"-- x\nnull", "NULL@5"},
		{"a", "a@0"},
		{"A", "A@0"},
		{"_1", "_1@0"},
		{`"null"`, "null@0"},
		{`"a b"`, "a b@0"},
		{"t.a", "t.a@0"},
		{" t . a ", "t.a@1"},
		{`"SELECT"."FROM"`, "SELECT.FROM@0"},
		{"sum", "sum@0"},
		{"sum.count", "sum.count@0"},
		{"(1)", "1@1"},
		{"(a)", "a@1"},
		{"((( t.a )))", "t.a@4"},
		{"(-1)", "-1@1"},
		{"(SELECT 1)", "(SUB@1 {1@8})"},
		{"((SELECT *))", "(SUB@2 {*})"},
		{"( select a from t )", "(SUB@2 {a@9 FROM t@16})"},
		{"(SELECT 1 UNION SELECT 2 LIMIT 1)", "(SUB@1 {1@8; UNION 2@23 LIMIT 1})"},
		{"EXISTS (SELECT 1)", "(EXISTS@0 {1@15})"},
		{"exists(select * from t)", "(EXISTS@0 {* FROM t@21})"},
	} {
		reads(t, x[0], x[1])
	}
}

// TestPa1Case: with one condition and more, and with and without another value.
func TestPa1Case(t *testing.T) {
	reads(t, "CASE WHEN a THEN 1 END", "(CASE@0 a@10 1@17 NULL@0)")
	reads(t, " CASE WHEN a THEN 1 ELSE 2 END", "(CASE@1 a@11 1@18 2@25)")
	reads(t, "CASE WHEN a THEN 1 ELSE NULL END", "(CASE@0 a@10 1@17 NULL@24)")
	reads(t, "case when a then 1 when b then 2 when c then 3 end", "(CASE@0 a@10 1@17 b@24 2@31 c@38 3@45 NULL@0)")
	reads(t, "CASE WHEN a THEN 1 WHEN b THEN 2 ELSE 3 END", "(CASE@0 a@10 1@17 b@24 2@31 3@38)")
	reads(t, "CASE WHEN a OR b THEN c OR d ELSE e OR f END", "(CASE@0 (OR@10 a@10 b@15) (OR@22 c@22 d@27) (OR@34 e@34 f@39))")
	reads(t, "CASE WHEN CASE WHEN a THEN b END THEN c END", "(CASE@0 (CASE@10 a@20 b@27 NULL@0) c@38 NULL@0)")
	reads(t, "CASE WHEN a THEN CASE WHEN b THEN c ELSE d END END + 1", "(+@0 (CASE@0 a@10 (CASE@17 b@27 c@34 d@41) NULL@0) 1@53)")
	reads(t, "1 + CASE WHEN NOT a THEN NOT b ELSE NOT c END", "(+@0 1@0 (CASE@4 (NOT@14 a@18) (NOT@25 b@29) (NOT@36 c@40)))")
}

// TestPa1Minus: ahead of a number it is the one below nought, ahead of others it is done to them.
func TestPa1Minus(t *testing.T) {
	for _, x := range [][2]string{
		{"-1", "-1@0"},
		{"- 1", "-1@0"},
		{" -/* x */-- y\n1", "-1@1"},
		{"-0", "0@0"},
		{"-9223372036854775807", "-9223372036854775807@0"},
		{"-9223372036854775807 - 1", "(-@0 -9223372036854775807@0 1@23)"},
		{"- -1", "(NEG@0 -1@2)"},
		{"- - -1", "(NEG@0 (NEG@2 -1@4))"},
		{"-a", "(NEG@0 a@1)"},
		{"-t.a", "(NEG@0 t.a@1)"},
		{"-(1)", "(NEG@0 1@2)"},
		{"-(-1)", "(NEG@0 -1@2)"},
		{"-'1'", "(NEG@0 '1'@1)"},
		{"-TRUE", "(NEG@0 TRUE@1)"},
		{"-NULL", "(NEG@0 NULL@1)"},
		{"-(SELECT 1)", "(NEG@0 (SUB@2 {1@9}))"},
		{"-ABS(-1)", "(NEG@0 (ABS@1 -1@5))"},
		{"-EXISTS (SELECT 1)", "(NEG@0 (EXISTS@1 {1@16}))"},
		{"-CASE WHEN 1 THEN 1 END", "(NEG@0 (CASE@1 1@11 1@18 NULL@0))"},
		{"- - a", "(NEG@0 (NEG@2 a@4))"},
		{"-1 * -a", "(*@0 -1@0 (NEG@5 a@6))"},
		{"-a * b", "(*@0 (NEG@0 a@1) b@5)"},
		{"-(a * b)", "(NEG@0 (*@2 a@2 b@6))"},
		{"1-1", "(-@0 1@0 1@2)"},
		{"1 -1", "(-@0 1@0 1@3)"},
		{"1 - -1", "(-@0 1@0 -1@4)"},
		{"1 - - a", "(-@0 1@0 (NEG@4 a@6))"},
		{"1 + -1", "(+@0 1@0 -1@4)"},
		{"a-b", "(-@0 a@0 b@2)"},
		{"-1 - -1 - - -1", "(-@0 (-@0 -1@0 -1@5) (NEG@10 -1@12))"},
		{"-1 IS NULL", "(NULL?@0 -1@0)"},
	} {
		reads(t, x[0], x[1])
	}
	wrongExpr(t, "-9223372036854775808", 1, api.ErrLex)
	wrongExpr(t, "- 9223372036854775808", 2, api.ErrLex)
	wrongQuery(t, "SELECT -9223372036854775808", 8, api.ErrLex)
	reads(t, "1--1", "1@0")
}

// TestPa1Product: each sign of a product, alone and nested to the left.
func TestPa1Product(t *testing.T) {
	for _, a := range []string{"*", "/", "%"} {
		reads(t, "a "+a+" b", "("+a+"@0 a@0 b@4)")
		for _, b := range []string{"*", "/", "%"} {
			reads(t, "a "+a+" b "+b+" c", "("+b+"@0 ("+a+"@0 a@0 b@4) c@8)")
			reads(t, "a "+a+" (b "+b+" c)", "("+a+"@0 a@0 ("+b+"@5 b@5 c@9))")
			reads(t, "(a "+a+" b) "+b+" c", "("+b+"@1 ("+a+"@1 a@1 b@5) c@10)")
		}
	}
	reads(t, "a*b/c%d", "(%@0 (/@0 (*@0 a@0 b@2) c@4) d@6)")
	reads(t, " -a * - b / 'c' ", "(/@1 (*@1 (NEG@1 a@2) (NEG@6 b@8)) 'c'@12)")
}

// TestPa1Sum: each sign of a sum, alone, nested to the left, and with products, which bind stronger.
func TestPa1Sum(t *testing.T) {
	for _, a := range []string{"+", "-", "||"} {
		n := len(a)
		reads(t, "a"+a+"b", put("(%s@0 a@0 b@%d)", a, n+1))
		for _, b := range []string{"+", "-", "||"} {
			reads(t, "a"+a+"b"+b+"c", put("(%s@0 (%s@0 a@0 b@%d) c@%d)", b, a, n+1, n+len(b)+2))
			reads(t, "a"+a+"(b"+b+"c)", put("(%s@0 a@0 (%s@%d b@%d c@%d))", a, b, n+2, n+2, n+len(b)+3))
		}
		for _, b := range []string{"*", "/", "%"} {
			reads(t, "a"+a+"b"+b+"c", put("(%s@0 a@0 (%s@%d b@%d c@%d))", a, b, n+1, n+1, n+3))
			reads(t, "a"+b+"b"+a+"c", put("(%s@0 (%s@0 a@0 b@2) c@%d)", a, b, n+3))
			reads(t, "(a"+a+"b)"+b+"c", put("(%s@1 (%s@1 a@1 b@%d) c@%d)", b, a, n+2, n+5))
		}
	}
	reads(t, "1 - 2 - 3 - 4", "(-@0 (-@0 (-@0 1@0 2@4) 3@8) 4@12)")
}

// TestPa1Compare: each sign that holds two against each other, between sums.
func TestPa1Compare(t *testing.T) {
	for _, a := range []string{"=", "<>", "<", "<=", ">", ">="} {
		n := len(a)
		reads(t, "a"+a+"b", put("(%s@0 a@0 b@%d)", a, n+1))
		reads(t, "a+b"+a+"c-d", put("(%s@0 (+@0 a@0 b@2) (-@%d c@%d d@%d))", a, n+3, n+3, n+5))
		reads(t, "NOT a"+a+"b", put("(NOT@0 (%s@4 a@4 b@%d))", a, n+5))
		reads(t, "(a"+a+"b)"+a+"c", put("(%s@1 (%s@1 a@1 b@%d) c@%d)", a, a, n+2, 2*n+4))
		reads(t, "a"+a+"(b"+a+"c)", put("(%s@0 a@0 (%s@%d b@%d c@%d))", a, a, n+2, n+2, 2*n+3))
		for _, b := range []string{"=", "<>", "<", "<=", ">", ">="} {
			refused(t, "a "+a+" b "+b+" c", 5+n)
		}
		refused(t, "a "+a+" b IS NULL", 5+n)
		refused(t, "a "+a+" b IN (1)", 5+n)
		refused(t, "a "+a+" b NOT IN (1)", 5+n)
		refused(t, "a "+a+" b BETWEEN 1 AND 2", 5+n)
		refused(t, "a "+a+" b LIKE c", 5+n)
		refused(t, "a "+a+" NOT b", 3+n)
		refused(t, "a "+a, 2+n)
	}
	reads(t, "a != b", "(<>@0 a@0 b@5)")
	refused(t, "a < > b", 4)
	refused(t, "a = = b", 4)
}

// TestPa1Test: each of the other ways of a test, said and not said to be so.
func TestPa1Test(t *testing.T) {
	for _, x := range [][2]string{
		{"a IS NULL", "(NULL?@0 a@0)"},
		{"a is not null", "(VALUE?@0 a@0)"},
		{"a + b IS NOT NULL", "(VALUE?@0 (+@0 a@0 b@4))"},
		{"(a IS NULL) IS NOT NULL", "(VALUE?@1 (NULL?@1 a@1))"},
		{"NOT a IS NULL", "(NOT@0 (NULL?@4 a@4))"},
		{"a IN (1)", "(IN@0 a@0 1@6)"},
		{"a NOT IN (1)", "(NOT-IN@0 a@0 1@10)"},
		{"a+1 in (b, c OR d, (e))", "(IN@0 (+@0 a@0 1@2) b@8 (OR@11 c@11 d@16) e@20)"},
		{"a IN ((SELECT 1))", "(IN@0 a@0 (SUB@7 {1@14}))"},
		{"a IN ((SELECT 1), 2)", "(IN@0 a@0 (SUB@7 {1@14}) 2@18)"},
		{"a IN (SELECT 1)", "(IN-SUB@0 a@0 {1@13})"},
		{"a NOT IN (select b from t)", "(NOT-IN-SUB@0 a@0 {b@17 FROM t@24})"},
		{" (a) IN (SELECT 1 EXCEPT SELECT 2)", "(IN-SUB@2 a@2 {1@16; EXCEPT 2@32})"},
		{"NOT a IN (1)", "(NOT@0 (IN@4 a@4 1@10))"},
		{"NOT a NOT IN (1)", "(NOT@0 (NOT-IN@4 a@4 1@14))"},
		{"(a IN (1)) IN (2)", "(IN@1 (IN@1 a@1 1@7) 2@15)"},
		{"a BETWEEN 1 AND 2", "(BETWEEN@0 a@0 1@10 2@16)"},
		{"a not between 1 and 2", "(NOT-BETWEEN@0 a@0 1@14 2@20)"},
		{"a+b BETWEEN c-d AND e||f", "(BETWEEN@0 (+@0 a@0 b@2) (-@12 c@12 d@14) (||@20 e@20 f@23))"},
		{"a BETWEEN 1 AND 2 AND b", "(AND@0 (BETWEEN@0 a@0 1@10 2@16) b@22)"},
		{"a BETWEEN (b AND c) AND d AND e AND f", "(AND@0 (AND@0 (BETWEEN@0 a@0 (AND@11 b@11 c@17) d@24) e@30) f@36)"},
		{"a BETWEEN 1 AND 2 OR b BETWEEN 3 AND 4", "(OR@0 (BETWEEN@0 a@0 1@10 2@16) (BETWEEN@21 b@21 3@31 4@37))"},
		{"a LIKE 'b%'", "(LIKE@0 a@0 'b%'@7)"},
		{"a NOT LIKE b || c", "(NOT-LIKE@0 a@0 (||@11 b@11 c@16))"},
		{"a || b LIKE c", "(LIKE@0 (||@0 a@0 b@5) c@12)"},
		{"NOT a LIKE b", "(NOT@0 (LIKE@4 a@4 b@11))"},
	} {
		reads(t, x[0], x[1])
	}
	tests := []string{"= c", "< c", "IS NULL", "IS NOT NULL", "IN (1)", "NOT IN (1)", "BETWEEN 1 AND 2", "LIKE c", "NOT LIKE c"}
	for _, a := range []string{"a BETWEEN 1 AND 2", "a NOT BETWEEN 1 AND 2", "a LIKE b", "a NOT LIKE b"} {
		for _, b := range tests {
			refused(t, a+" "+b, len(a)+1)
		}
	}
	for _, a := range []string{"a IS NULL", "a IS NOT NULL", "a IN (1)", "a NOT IN (1)", "a IN (SELECT 1)", "a NOT IN (SELECT 1)"} {
		for _, b := range append(tests, "+ 1", "- 1", "|| c", "* 1", "/ 1", "% 1") {
			refused(t, a+" "+b, len(a)+1)
		}
	}
	for s, at := range map[string]int{
		"a IS":                     4,
		"a IS a":                   5,
		"a IS TRUE":                5,
		"a IS NOT":                 8,
		"a IS NOT 1":               9,
		"a IS NOT NOT NULL":        9,
		"a NOT":                    5,
		"a NOT b":                  6,
		"a NOT NULL":               6,
		"a NOT IS NULL":            6,
		"a NOT = b":                6,
		"a NOT NOT IN (1)":         6,
		"a IN":                     4,
		"a IN 1":                   5,
		"a IN b":                   5,
		"a IN SELECT 1":            5,
		"a IN (":                   6,
		"a IN ()":                  6,
		"a IN (1":                  7,
		"a IN (1,":                 8,
		"a IN (1,)":                8,
		"a IN (,1)":                6,
		"a IN (1 2)":               8,
		"a IN (*)":                 6,
		"a IN (1, SELECT 1)":       9,
		"a IN (SELECT 1":           14,
		"a IN (SELECT 1, )":        16,
		"a IN ((SELECT 1)":         16,
		"a IN NOT (1)":             5,
		"a BETWEEN":                9,
		"a BETWEEN 1":              11,
		"a BETWEEN 1, 2":           11,
		"a BETWEEN 1 OR 2":         12,
		"a BETWEEN 1 AND":          15,
		"a BETWEEN AND 2":          10,
		"a BETWEEN 1 = 1 AND 2":    12,
		"a BETWEEN (1 AND 2)":      19,
		"a BETWEEN 1 AND 2 IN (1)": 18,
		"a LIKE":                   6,
		"a LIKE AND":               7,
		"a LIKE b LIKE c":          9,
		"BETWEEN 1 AND 2":          0,
		"IN (1)":                   0,
		"IS NULL":                  0,
		"LIKE a":                   0,
		"= a":                      0,
	} {
		refused(t, s, at)
	}
}

// TestPa1Not: of what binds weaker than it, stronger, and of itself.
func TestPa1Not(t *testing.T) {
	reads(t, "NOT a", "(NOT@0 a@4)")
	reads(t, "not not a", "(NOT@0 (NOT@4 a@8))")
	reads(t, "NOT(a)", "(NOT@0 a@4)")
	reads(t, "(NOT a)", "(NOT@1 a@5)")
	reads(t, "NOT -1", "(NOT@0 -1@4)")
	reads(t, "NOT a AND b", "(AND@0 (NOT@0 a@4) b@10)")
	reads(t, "a AND NOT b", "(AND@0 a@0 (NOT@6 b@10))")
	reads(t, "NOT a OR NOT b", "(OR@0 (NOT@0 a@4) (NOT@9 b@13))")
	reads(t, "NOT (a OR b)", "(NOT@0 (OR@5 a@5 b@10))")
	reads(t, "NOT a = b", "(NOT@0 (=@4 a@4 b@8))")
	reads(t, "NOT a + b", "(NOT@0 (+@4 a@4 b@8))")
	reads(t, "(NOT a) + b", "(+@1 (NOT@1 a@5) b@10)")
	reads(t, "NOT EXISTS (SELECT 1)", "(NOT@0 (EXISTS@4 {1@19}))")
	refused(t, "NOT", 3)
	refused(t, "a + NOT b", 4)
	refused(t, "a * NOT b", 4)
	refused(t, "- NOT b", 2)
	refused(t, "a LIKE NOT b", 7)
	refused(t, "a BETWEEN NOT b AND c", 10)
	refused(t, "a BETWEEN b AND NOT c", 16)
}

// TestPa1Logic: AND binds stronger than OR, both nest to the left.
func TestPa1Logic(t *testing.T) {
	reads(t, "a OR b", "(OR@0 a@0 b@5)")
	reads(t, "a AND b", "(AND@0 a@0 b@6)")
	reads(t, "a or b or c", "(OR@0 (OR@0 a@0 b@5) c@10)")
	reads(t, "a and b and c", "(AND@0 (AND@0 a@0 b@6) c@12)")
	reads(t, "a OR b AND c", "(OR@0 a@0 (AND@5 b@5 c@11))")
	reads(t, "a AND b OR c", "(OR@0 (AND@0 a@0 b@6) c@11)")
	reads(t, "a AND b OR c AND d", "(OR@0 (AND@0 a@0 b@6) (AND@11 c@11 d@17))")
	reads(t, "a OR (b OR c)", "(OR@0 a@0 (OR@6 b@6 c@11))")
	reads(t, "a AND (b AND c)", "(AND@0 a@0 (AND@7 b@7 c@13))")
	reads(t, "(a OR b) AND (c OR d)", "(AND@1 (OR@1 a@1 b@6) (OR@14 c@14 d@19))")
	reads(t, "a = b AND c < d OR NOT e", "(OR@0 (AND@0 (=@0 a@0 b@4) (<@10 c@10 d@14)) (NOT@19 e@23))")
	reads(t, "1 OR 2 OR 3 AND 4 AND 5 OR 6", "(OR@0 (OR@0 (OR@0 1@0 2@5) (AND@10 (AND@10 3@10 4@16) 5@22)) 6@27)")
}

// TestPa1Brackets: where an expression begins, the brackets ahead of it are none of it.
func TestPa1Brackets(t *testing.T) {
	reads(t, "(a)+b", "(+@1 a@1 b@4)")
	reads(t, "((a)+b)*c", "(*@2 (+@2 a@2 b@5) c@8)")
	reads(t, "(((a))) IS NULL", "(NULL?@3 a@3)")
	reads(t, "(a) BETWEEN (b) AND (c)", "(BETWEEN@1 a@1 b@13 c@21)")
	reads(t, "(a) LIKE (b)", "(LIKE@1 a@1 b@10)")
	reads(t, "(a) IN ((b))", "(IN@1 a@1 b@9)")
	reads(t, "((SELECT 1)) = 1", "(=@2 (SUB@2 {1@9}) 1@15)")
	reads(t, "(-(a)) - (- (1))", "(-@1 (NEG@1 a@3) (NEG@10 1@13))")
	reads(t, "(NOT (a)) OR (b)", "(OR@1 (NOT@1 a@6) b@14)")
	reads(t, "((ABS((a))) * 1)", "(*@2 (ABS@2 a@7) 1@14)")
}

// TestPa1WrongAtom: at each token of an atom one that may not stand there.
func TestPa1WrongAtom(t *testing.T) {
	for s, at := range map[string]int{
		"+":                                    0,
		"+1":                                   0,
		"||":                                   0,
		",":                                    0,
		".":                                    0,
		".a":                                   0,
		"()":                                   1,
		"(":                                    1,
		"(1":                                   2,
		"(1,2)":                                2,
		"(1 2)":                                3,
		"1 +":                                  3,
		"1 + + 2":                              4,
		"1 * + 2":                              4,
		"1 * / 2":                              4,
		"1 2":                                  2,
		"1 'a'":                                2,
		"1 a":                                  2,
		"'a' 'b'":                              4,
		"a b":                                  2,
		"a 1":                                  2,
		"1.":                                   1,
		"1.2":                                  1,
		"'a'.b":                                3,
		"a.":                                   2,
		"a.1":                                  2,
		"a.'b'":                                2,
		"a.*":                                  2,
		"a.SELECT":                             2,
		"a.b.c":                                3,
		"a.b(1)":                               3,
		"a(":                                   0,
		"TRUE FALSE":                           5,
		"TRUE(1)":                              4,
		"-":                                    1,
		"- -":                                  3,
		"-*":                                   1,
		"-SELECT":                              1,
		"CASE":                                 4,
		"CASE a":                               5,
		"CASE END":                             5,
		"CASE ELSE 1 END":                      5,
		"CASE a WHEN 1 THEN 2 END":             5,
		"CASE WHEN":                            9,
		"CASE WHEN THEN 1 END":                 10,
		"CASE WHEN a":                          11,
		"CASE WHEN a END":                      12,
		"CASE WHEN a ELSE 1 END":               12,
		"CASE WHEN a, b THEN 1 END":            11,
		"CASE WHEN a THEN":                     16,
		"CASE WHEN a THEN END":                 17,
		"CASE WHEN a THEN 1":                   18,
		"CASE WHEN a THEN 1 THEN 2 END":        19,
		"CASE WHEN a THEN 1 ELSE":              23,
		"CASE WHEN a THEN 1 ELSE END":          24,
		"CASE WHEN a THEN 1 ELSE 2":            25,
		"CASE WHEN a THEN 1 ELSE 2 ELSE 3 END": 26,
		"CASE WHEN a THEN 1 ELSE 2 WHEN b THEN 3 END": 26,
		"CASE WHEN a THEN 1 END CASE":                 23,
		"CASE WHEN a THEN 1 WHEN END":                 24,
		"CASE WHEN SELECT 1 THEN 1 END":               10,
		"WHEN a THEN 1":                               0,
		"END":                                         0,
		"EXISTS":                                      6,
		"EXISTS 1":                                    7,
		"EXISTS SELECT 1":                             7,
		"EXISTS (":                                    8,
		"EXISTS ()":                                   8,
		"EXISTS (1)":                                  8,
		"EXISTS (a)":                                  8,
		"EXISTS ((SELECT 1))":                         8,
		"EXISTS (SELECT 1":                            16,
		"EXISTS (SELECT 1) 1":                         18,
		"AND a":                                       0,
		"a AND":                                       5,
		"a AND AND b":                                 6,
		"a OR":                                        4,
		"a OR OR b":                                   5,
		"a AND OR b":                                  6,
		"a NOT AND b":                                 6,
		"a OR SELECT 1":                               5,
	} {
		refused(t, s, at)
	}
	wrongExpr(t, "*", 0, api.ErrParse)
	wrongExpr(t, ")", 0, api.ErrParse)
	wrongExpr(t, "SELECT 1", 0, api.ErrParse)
	wrongExpr(t, "(SELECT 1", 9, api.ErrParse)
	wrongExpr(t, "(SELECT 1) 2", 11, api.ErrParse)
	wrongExpr(t, "(*)", 1, api.ErrParse)
	wrongExpr(t, "((SELECT 1)", 11, api.ErrParse)
	wrongExpr(t, "(SELECT 1, )", 11, api.ErrParse)
}
