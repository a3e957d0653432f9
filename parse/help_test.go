package parse_test

import (
	"fmt"
	"reflect"
	"strings"
	"testing"

	"quayside/api"
	"quayside/parse"
)

// opNames are what is done, as it is shown.
var opNames = map[int]string{
	api.DoNot: "NOT", api.DoNeg: "NEG", api.DoIsNull: "NULL?", api.DoNotNull: "VALUE?",
	api.DoOr: "OR", api.DoAnd: "AND",
	api.DoEq: "=", api.DoNe: "<>", api.DoLt: "<", api.DoLe: "<=", api.DoGt: ">", api.DoGe: ">=",
	api.DoAdd: "+", api.DoSub: "-", api.DoMul: "*", api.DoDiv: "/", api.DoMod: "%", api.DoCat: "||",
	api.DoCountAll: "COUNT*", api.DoCount: "COUNT", api.DoSum: "SUM", api.DoMin: "MIN", api.DoMax: "MAX",
	api.DoAbs: "ABS", api.DoLength: "LENGTH", api.DoUpper: "UPPER", api.DoLower: "LOWER", api.DoSubstr: "SUBSTR",
	api.DoCoalesce: "COALESCE", api.DoNullif: "NULLIF", api.DoLeast: "LEAST", api.DoGreatest: "GREATEST",
}

// kindNames are those of expressions that have no Op.
var kindNames = map[int]string{
	api.ExCase: "CASE", api.ExIn: "IN", api.ExBetween: "BETWEEN", api.ExLike: "LIKE",
	api.ExSub: "SUB", api.ExInSub: "IN-SUB", api.ExExists: "EXISTS",
}

// opKinds are the kinds of what is done.
func opKind(op int) int {
	switch {
	case op <= api.DoNotNull:
		return api.ExUnary
	case op <= api.DoCat:
		return api.ExBinary
	case op <= api.DoMax:
		return api.ExAgg
	}
	return api.ExCall
}

// showValue is a literal as it is shown; fields that its kind gives no meaning spoil it.
func showValue(v api.Value) string {
	switch v {
	case api.Value{}:
		return "NULL"
	case api.Value{Kind: api.Bool, N: 1}:
		return "TRUE"
	case api.Value{Kind: api.Bool}:
		return "FALSE"
	case api.Value{Kind: api.Int, N: v.N}:
		return fmt.Sprint(v.N)
	case api.Value{Kind: api.Text, S: v.S}:
		return "'" + v.S + "'"
	}
	return fmt.Sprintf("?%+v", v)
}

// showExpr is an expression as it is shown, each with where it begins: a*-1 is (*@0 a@0 -1@2). What has no place in one of its kind spoils it.
func showExpr(e api.Expr) string {
	rest := e
	rest.Kind, rest.At, rest.Args, rest.Sub = 0, 0, nil, nil
	s := ""
	switch e.Kind {
	case api.ExLit:
		rest.Val = api.Value{}
		s = fmt.Sprintf("%s@%d", showValue(e.Val), e.At)
	case api.ExCol:
		rest.Table, rest.Name = "", ""
		s = fmt.Sprintf("%s@%d", strings.TrimPrefix(e.Table+"."+e.Name, "."), e.At)
	case api.ExUnary, api.ExBinary, api.ExAgg, api.ExCall:
		rest.Op = e.Kind - opKind(e.Op)
		s = fmt.Sprintf("(%s@%d", opNames[e.Op], e.At)
	default:
		rest.Down = false
		s = fmt.Sprintf("(%s@%d", kindNames[e.Kind], e.At)
		if e.Down {
			s = fmt.Sprintf("(NOT-%s@%d", kindNames[e.Kind], e.At)
		}
	}
	if !reflect.DeepEqual(rest, api.Expr{}) || e.Kind <= api.ExCol && len(e.Args)+len(e.Sub) > 0 {
		s += fmt.Sprintf("?%+v", e)
	}
	for _, x := range e.Args {
		s += " " + showExpr(x)
	}
	for _, q := range e.Sub {
		s += " " + showQuery(q)
	}
	if e.Kind > api.ExCol {
		s += ")"
	}
	return s
}

// showAll are some expressions behind a word, if there are any.
func showAll(word string, l []api.Expr) string {
	s := ""
	for k, e := range l {
		s += []string{", ", " " + word + " "}[max(0, 1-k)] + showExpr(e)
	}
	return s
}

func showItem(i api.Item) string {
	if i.Star {
		if !reflect.DeepEqual(i, api.Item{Star: true}) {
			return fmt.Sprintf("?%+v", i)
		}
		return "*"
	}
	if i.As != "" {
		return showExpr(i.Expr) + " AS " + i.As
	}
	return showExpr(i.Expr)
}

func showSource(f api.Source) string {
	s := f.Table
	if f.As != "" {
		s += " AS " + f.As
	}
	if f.Left {
		s = "LEFT " + s
	}
	return fmt.Sprintf("%s@%d", s, f.At) + showAll("ON", f.On)
}

func showKey(k api.Key) string {
	s := k.Name
	if k.Place != 0 {
		s = fmt.Sprint(k.Place) + s
	}
	if k.Down {
		s += " DESC"
	}
	return fmt.Sprintf("%s@%d", s, k.At)
}

// joinShown are some as they are shown, behind a word, if there are any.
func joinShown[T any](word string, l []T, show func(T) string) string {
	var parts []string
	for _, x := range l {
		parts = append(parts, show(x))
	}
	if len(l) == 0 {
		return ""
	}
	return word + strings.Join(parts, ", ")
}

func showSelect(s api.Select) string {
	text := []string{"", "ALL ", "UNION ", "INTERSECT ", "EXCEPT "}[s.How]
	if s.Distinct {
		text += "DISTINCT "
	}
	return text + joinShown("", s.Items, showItem) + joinShown(" FROM ", s.From, showSource) + showAll("WHERE", s.Where) + showAll("GROUP", s.Group) + showAll("HAVING", s.Having)
}

// showQuery is a query as it is shown: its selects, by what its rows are ordered, the limit and where it begins, unless there is none.
func showQuery(q api.Query) string {
	s := ""
	for k, x := range q.Selects {
		s += []string{"; ", ""}[max(0, 1-k)] + showSelect(x)
	}
	s += joinShown(" ORDER ", q.Order, showKey)
	if q.Limit != -1 {
		s += fmt.Sprint(" LIMIT ", q.Limit)
	}
	if q.Offset != 0 {
		s += fmt.Sprint(" OFFSET ", q.Offset)
	}
	return "{" + s + "}"
}

// reads tells that an expression is read as that, and within a query likewise.
func reads(t *testing.T, s, want string) {
	t.Helper()
	x, k, e := parse.Expr(s)
	if got := showExpr(x); e != api.OK || k != 0 || got != want {
		t.Errorf("Expr(%.200q): %.400s, %d, error %d; want %.400s", s, got, k, e, want)
	}
	q, k, e := parse.Query("SELECT DISTINCT * WHERE\n" + s)
	moveExpr(&x, 24)
	if got, want := showQuery(q), "{DISTINCT * WHERE "+showExpr(x)+"}"; e != api.OK || k != 0 || got != want {
		t.Errorf("Query(.. %.200q): %.400s, %d, error %d; want %.400s", s, got, k, e, want)
	}
}

// queries tells that a query is read as that, and within an expression likewise.
func queries(t *testing.T, s, want string) {
	t.Helper()
	q, k, e := parse.Query(s)
	if got := showQuery(q); e != api.OK || k != 0 || got != want {
		t.Errorf("Query(%.200q): %.400s, %d, error %d; want %.400s", s, got, k, e, want)
	}
	x, k, e := parse.Expr("EXISTS (" + s + ")")
	moveQuery(&q, 8)
	if got, want := showExpr(x), "(EXISTS@0 "+showQuery(q)+")"; e != api.OK || k != 0 || got != want {
		t.Errorf("Expr(EXISTS (%.200q)): %.400s, %d, error %d; want %.400s", s, got, k, e, want)
	}
}

// moveExpr puts an expression so far behind where it was. A null that was not said stands nowhere.
func moveExpr(e *api.Expr, by int) {
	unsaid := e.Kind == api.ExCase && reflect.DeepEqual(e.Args[len(e.Args)-1], api.Expr{Kind: api.ExLit})
	e.At += by
	for k := range e.Args {
		if !unsaid || k < len(e.Args)-1 {
			moveExpr(&e.Args[k], by)
		}
	}
	for k := range e.Sub {
		moveQuery(&e.Sub[k], by)
	}
}

func moveQuery(q *api.Query, by int) {
	for k := range q.Selects {
		s := &q.Selects[k]
		lists := [][]api.Expr{s.Where, s.Group, s.Having}
		for i := range s.Items {
			if !s.Items[i].Star {
				moveExpr(&s.Items[i].Expr, by)
			}
		}
		for i := range s.From {
			s.From[i].At += by
			lists = append(lists, s.From[i].On)
		}
		for _, l := range lists {
			for i := range l {
				moveExpr(&l[i], by)
			}
		}
	}
	for k := range q.Order {
		q.Order[k].At += by
	}
}

// wrongExpr tells that an expression is wrong there.
func wrongExpr(t *testing.T, s string, where int, err api.Errno) {
	t.Helper()
	if x, k, e := parse.Expr(s); e != err || k != where || !reflect.DeepEqual(x, api.Expr{}) {
		t.Errorf("Expr(%.200q): %.200s, %d, error %d; want error %d at %d", s, showExpr(x), k, e, err, where)
	}
}

// wrongQuery tells that a query is wrong there.
func wrongQuery(t *testing.T, s string, where int, err api.Errno) {
	t.Helper()
	if q, k, e := parse.Query(s); e != err || k != where || !reflect.DeepEqual(q, api.Query{}) {
		t.Errorf("Query(%.200q): %.200s, %d, error %d; want error %d at %d", s, showQuery(q), k, e, err, where)
	}
}

// refused tells that an expression is refused at a token, and within a query likewise.
func refused(t *testing.T, s string, where int) {
	t.Helper()
	wrongExpr(t, s, where, api.ErrParse)
	wrongQuery(t, "SELECT "+s, 7+where, api.ErrParse)
	wrongQuery(t, "SELECT * WHERE "+s, 15+where, api.ErrParse)
	wrongExpr(t, "("+s, 1+where, api.ErrParse)
	wrongExpr(t, "NOT "+s, 4+where, api.ErrParse)
	wrongExpr(t, "0 IN ("+s, 6+where, api.ErrParse)
	wrongExpr(t, "COALESCE("+s, 9+where, api.ErrParse)
}

// refusedQuery tells that a query is refused at a token, and within an expression likewise.
func refusedQuery(t *testing.T, s string, where int) {
	t.Helper()
	wrongQuery(t, s, where, api.ErrParse)
	wrongExpr(t, "EXISTS("+s, 7+where, api.ErrParse)
	wrongExpr(t, "0 IN ("+s, 6+where, api.ErrParse)
}

// many is a text so often, with another one between.
func many(n int, s, between string) string {
	return strings.TrimSuffix(strings.Repeat(s+between, n), between)
}

// shown is an expression as it is shown, which must be one.
func shown(t *testing.T, s string) string {
	t.Helper()
	x, k, e := parse.Expr(s)
	if e != api.OK || k != 0 {
		t.Errorf("Expr(%.200q): %d, error %d", s, k, e)
	}
	return showExpr(x)
}

// answered tells that a query is one.
func answered(t *testing.T, s string) {
	t.Helper()
	if _, k, e := parse.Query(s); e != api.OK || k != 0 {
		t.Errorf("Query(%.400q): %d, error %d", s, k, e)
	}
}
