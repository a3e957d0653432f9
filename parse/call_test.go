package parse_test

import (
	"strings"
	"testing"

	"quayside/api"
	"quayside/parse"
)

// calledFunction is a function, what it does, and how many arguments it takes.
type calledFunction struct {
	name            string
	op, least, most int
}

var called = []calledFunction{
	{"COUNT", api.DoCount, 1, 1},
	{"SUM", api.DoSum, 1, 1},
	{"MIN", api.DoMin, 1, 1},
	{"MAX", api.DoMax, 1, 1},
	{"ABS", api.DoAbs, 1, 1},
	{"LENGTH", api.DoLength, 1, 1},
	{"UPPER", api.DoUpper, 1, 1},
	{"LOWER", api.DoLower, 1, 1},
	{"SUBSTR", api.DoSubstr, 3, 3},
	{"NULLIF", api.DoNullif, 2, 2},
	{"COALESCE", api.DoCoalesce, 1, 16},
	{"LEAST", api.DoLeast, 1, 16},
	{"GREATEST", api.DoGreatest, 1, 16},
}

// TestPa1Call: each function, of no arguments up to sixteen: those that it takes are read, fewer and more are refused where its name begins.
func TestPa1Call(t *testing.T) {
	for _, f := range called {
		for n := range 17 {
			s := f.name + "(" + many(n, "a", ",") + ")"
			if n < f.least || n > f.most {
				refused(t, s, 0)
				refused(t, "1 + "+s+" - 1", 4)
				refused(t, "("+s, 1)
				continue
			}
			want := put("(%s@0", f.name)
			for k := range n {
				want += put(" a@%d", len(f.name)+1+2*k)
			}
			reads(t, s, want+")")
			if x, _, _ := parse.Expr(s); x.Op != f.op || x.Kind != opKind(f.op) || len(x.Args) != n {
				t.Errorf("%s is %+v", s, x)
			}
		}
		refused(t, f.name+"(", len(f.name)+1)
		refused(t, f.name+"(a", len(f.name)+2)
		refused(t, f.name+"(a,", len(f.name)+3)
		refused(t, f.name+"(a,)", len(f.name)+3)
		refused(t, f.name+"(,a)", len(f.name)+1)
		refused(t, f.name+"(a b)", len(f.name)+3)
		refused(t, f.name+"(DISTINCT a)", len(f.name)+1)
		refused(t, f.name+"(SELECT 1)", len(f.name)+1)
		refused(t, f.name+"(a, *)", len(f.name)+4)
		refused(t, f.name+"(a *)", len(f.name)+4)
		refused(t, f.name+"(*, a)", len(f.name)+2)
		refused(t, f.name+"(* a)", len(f.name)+3)
		refused(t, f.name+"(*", len(f.name)+2)
	}
}

// TestPa1CallStar: of all that functions take, that is COUNT's alone.
func TestPa1CallStar(t *testing.T) {
	reads(t, "COUNT(*)", "(COUNT*@0)")
	reads(t, "count ( * ) + 1", "(+@0 (COUNT*@0) 1@14)")
	if x, _, _ := parse.Expr("COUNT(*)"); x.Kind != api.ExAgg || x.Op != api.DoCountAll || len(x.Args) != 0 {
		t.Errorf("%+v", x)
	}
	for _, f := range called[1:] {
		refused(t, f.name+"(*)", 0)
		refused(t, "a AND "+f.name+" (*) OR", 6)
	}
}

// TestPa1CallName: a function's name may have letters of any size, and quotes; there may be blanks and remarks behind it. It is one just where a bracket follows.
func TestPa1CallName(t *testing.T) {
	for _, f := range called {
		args := many(f.least, "1", ",")
		shown := ""
		for k := range f.least {
			shown += put(" 1@%d", len(f.name)+7+2*k)
		}
		for _, name := range []string{f.name, strings.ToLower(f.name), f.name[:1] + strings.ToLower(f.name[1:]), strings.ToLower(f.name[:1]) + f.name[1:]} {
			for _, open := range []string{"(    ", "    (", "/**/(", "\n-- \n(", " /**/ ("} {
				reads(t, name+open+strings.Repeat(" ", 7-len(open))+args+")", "("+f.name+"@0"+shown+")")
			}
			reads(t, `"`+name+`"(    `+args+")", "("+f.name+"@0"+shown+")")
			reads(t, name, name+"@0")
			reads(t, "t."+name, "t."+name+"@0")
			reads(t, name+".a", name+".a@0")
			refused(t, "t."+name+"("+args+")", 2+len(name))
			refused(t, "'"+name+"'("+args+")", 2+len(name))
			refused(t, name+" 1", len(name)+1)
		}
		for _, name := range []string{f.name + "_", "_" + f.name, f.name + f.name, f.name[1:], f.name[:len(f.name)-1], f.name + "1", `" ` + f.name + `"`, `"` + f.name + ` "`} {
			refused(t, name+"("+args+")", 0)
		}
	}
	queries(t, "SELECT sum FROM min max ORDER BY count", "{sum@7 FROM min AS max@16 ORDER count@33}")
}

// TestPa1CallNone: a name that is no function's is refused where it begins, whatever is behind the bracket.
func TestPa1CallNone(t *testing.T) {
	for _, name := range []string{"f", "F", "_", "a1", "average", "COUNTS", "IFNULL", `"select"`, `"count "`, `""""`, "\"\u017fum\"", "\"m\u0131n\"", "\"\uff33\uff35\uff2d\"", "\"LEA\u017fT\"", "\"sum\x00\"", "\"\xff\"", strings.Repeat("a", 64)} {
		for _, behind := range []string{"()", "(1)", "(*)", "(1, 2)", "(", "(1", "(1,", "(,", "(1 2)", " (SELECT 1)", "/**/(f(1))", "(ABS())"} {
			refused(t, name+behind, 0)
			refused(t, "a = "+name+behind, 4)
			refused(t, "ABS("+name+behind+")", 4)
		}
		for _, behind := range []string{"", " + 1", ".a", " IS NULL"} {
			if _, _, e := parse.Expr(name + behind); e != api.OK {
				t.Errorf("%q: error %d", name+behind, e)
			}
		}
	}
}

// TestPa1CallWithin: arguments are expressions, of other functions among others.
func TestPa1CallWithin(t *testing.T) {
	reads(t, "ABS(a OR NOT b)", "(ABS@0 (OR@4 a@4 (NOT@9 b@13)))")
	reads(t, "ABS((SELECT 1))", "(ABS@0 (SUB@5 {1@12}))")
	reads(t, "ABS((a))", "(ABS@0 a@5)")
	reads(t, "SUM(ABS(-a)) * 2", "(*@0 (SUM@0 (ABS@4 (NEG@8 a@9))) 2@15)")
	reads(t, "substr('abc', 1 + 1, length(b))", "(SUBSTR@0 'abc'@7 (+@14 1@14 1@18) (LENGTH@21 b@28))")
	reads(t, "coalesce(nullif(a, b), -1, least(1, c), greatest(d))", "(COALESCE@0 (NULLIF@9 a@16 b@19) -1@23 (LEAST@27 1@33 c@36) (GREATEST@40 d@49))")
	reads(t, "MIN(a) + MAX(b) > COUNT(c)", "(>@0 (+@0 (MIN@0 a@4) (MAX@9 b@13)) (COUNT@18 c@24))")
	reads(t, "upper(a) || lower(b)", "(||@0 (UPPER@0 a@6) (LOWER@12 b@18))")
	refused(t, "ABS(ABS())", 4)
	refused(t, "ABS(ABS(1, 2), 3)", 4)
	refused(t, "ABS(ABS(1), 3)", 0)
	refused(t, "COALESCE(ABS(), f(1))", 9)
	refused(t, "COALESCE(f(1), ABS())", 9)
}
