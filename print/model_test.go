package print_test

import (
	"fmt"
	"strings"

	"quayside/api"
)

// opWords are what is put of what is done.
var opWords = map[int]string{
	api.DoOr: "OR", api.DoAnd: "AND",
	api.DoEq: "=", api.DoNe: "<>", api.DoLt: "<", api.DoLe: "<=", api.DoGt: ">", api.DoGe: ">=",
	api.DoAdd: "+", api.DoSub: "-", api.DoCat: "||", api.DoMul: "*", api.DoDiv: "/", api.DoMod: "%",
	api.DoCountAll: "COUNT", api.DoCount: "COUNT", api.DoSum: "SUM", api.DoMin: "MIN", api.DoMax: "MAX",
	api.DoAbs: "ABS", api.DoLength: "LENGTH", api.DoUpper: "UPPER", api.DoLower: "LOWER", api.DoSubstr: "SUBSTR",
	api.DoCoalesce: "COALESCE", api.DoNullif: "NULLIF", api.DoLeast: "LEAST", api.DoGreatest: "GREATEST",
}

// opStrong are how strong what is done binds.
var opStrong = map[int]int{
	api.DoOr: 1, api.DoAnd: 2, api.DoNot: 3, api.DoIsNull: 4, api.DoNotNull: 4,
	api.DoEq: 4, api.DoNe: 4, api.DoLt: 4, api.DoLe: 4, api.DoGt: 4, api.DoGe: 4,
	api.DoAdd: 5, api.DoSub: 5, api.DoCat: 5, api.DoMul: 6, api.DoDiv: 6, api.DoMod: 6, api.DoNeg: 7,
}

var kindStrong = map[int]int{api.ExIn: 4, api.ExInSub: 4, api.ExBetween: 4, api.ExLike: 4}

// strongOf is how strong an expression binds, as the chapter lists it.
func strongOf(e api.Expr) int {
	if e.Kind == api.ExUnary || e.Kind == api.ExBinary {
		return opStrong[e.Op]
	}
	if n, is := kindStrong[e.Kind]; is {
		return n
	}
	return 8
}

// at is an expression within another one at a strength.
func at(e api.Expr, strong int) string {
	if strongOf(e) < strong {
		return "(" + plainExpr(e) + ")"
	}
	return plainExpr(e)
}

func plainName(s string) string {
	if keyWords[strings.ToUpper(s)] || s == "" || strings.Trim(s, "abcdefghijklmnopqrstuvwxyzABCDEFGHIJKLMNOPQRSTUVWXYZ_0123456789") != "" || s[0] <= '9' {
		return `"` + strings.ReplaceAll(s, `"`, `""`) + `"`
	}
	return s
}

var keyWords = keys("ALL, AND, AS, ASC, BETWEEN, BY, CASE, DESC, DISTINCT, ELSE, END, EXCEPT, EXISTS, FALSE, FROM, GROUP, HAVING, IN, INNER, INTERSECT, IS, JOIN, LEFT, LIKE, LIMIT, NOT, NULL, OFFSET, ON, OR, ORDER, SELECT, THEN, TRUE, UNION, WHEN, WHERE")

func keys(list string) map[string]bool {
	all := map[string]bool{}
	for _, word := range strings.Split(list, ", ") {
		all[word] = true
	}
	return all
}

func plainValue(v api.Value) string {
	switch v.Kind {
	case api.Null:
		return "NULL"
	case api.Int:
		return fmt.Sprint(v.N)
	case api.Text:
		return "'" + strings.ReplaceAll(v.S, "'", "''") + "'"
	}
	return []string{"FALSE", "TRUE"}[v.N]
}

func plainList(l []api.Expr) string {
	var parts []string
	for _, e := range l {
		parts = append(parts, at(e, 1))
	}
	return strings.Join(parts, ", ")
}

// plainExpr is an expression as text, by the chapter's words.
func plainExpr(e api.Expr) string {
	not := map[bool]string{true: "NOT "}[e.Down]
	switch e.Kind {
	case api.ExLit:
		return plainValue(e.Val)
	case api.ExCol:
		if e.Table != "" {
			return plainName(e.Table) + "." + plainName(e.Name)
		}
		return plainName(e.Name)
	case api.ExUnary:
		return plainUnary(e)
	case api.ExBinary:
		n := opStrong[e.Op]
		if n == 4 {
			return at(e.Args[0], 5) + " " + opWords[e.Op] + " " + at(e.Args[1], 5)
		}
		return at(e.Args[0], n) + " " + opWords[e.Op] + " " + at(e.Args[1], n+1)
	case api.ExAgg, api.ExCall:
		return opWords[e.Op] + "(" + map[bool]string{true: "*"}[e.Op == api.DoCountAll] + plainList(e.Args) + ")"
	case api.ExCase:
		s := "CASE "
		for k := 0; k+1 < len(e.Args); k += 2 {
			s += "WHEN " + at(e.Args[k], 1) + " THEN " + at(e.Args[k+1], 1) + " "
		}
		return s + "ELSE " + at(e.Args[len(e.Args)-1], 1) + " END"
	case api.ExIn:
		return at(e.Args[0], 5) + " " + not + "IN (" + plainList(e.Args[1:]) + ")"
	case api.ExInSub:
		return at(e.Args[0], 5) + " " + not + "IN (" + plainQuery(e.Sub[0]) + ")"
	case api.ExBetween:
		return at(e.Args[0], 5) + " " + not + "BETWEEN " + at(e.Args[1], 5) + " AND " + at(e.Args[2], 5)
	case api.ExLike:
		return at(e.Args[0], 5) + " " + not + "LIKE " + at(e.Args[1], 5)
	case api.ExSub:
		return "(" + plainQuery(e.Sub[0]) + ")"
	case api.ExExists:
		return "EXISTS (" + plainQuery(e.Sub[0]) + ")"
	}
	return fmt.Sprintf("?%+v", e)
}

func plainUnary(e api.Expr) string {
	a := e.Args[0]
	switch e.Op {
	case api.DoNot:
		return "NOT " + at(a, 3)
	case api.DoIsNull:
		return at(a, 5) + " IS NULL"
	case api.DoNotNull:
		return at(a, 5) + " IS NOT NULL"
	}
	if a.Kind == api.ExLit && strings.ContainsAny(plainExpr(a)[:1], "0123456789") {
		return "- (" + plainExpr(a) + ")"
	}
	return "- " + at(a, 7)
}

// plainQuery is a query as text, by the chapter's words.
func plainQuery(q api.Query) string {
	var parts []string
	for k, s := range q.Selects {
		if k > 0 {
			parts = append(parts, []string{"", "UNION ALL", "UNION", "INTERSECT", "EXCEPT"}[s.How])
		}
		parts = append(parts, plainSelect(s)...)
	}
	var order []string
	for _, k := range q.Order {
		s := fmt.Sprint(k.Place)
		if k.Place == 0 {
			s = plainName(k.Name)
		}
		order = append(order, s+map[bool]string{true: " DESC"}[k.Down])
	}
	if len(order) > 0 {
		parts = append(parts, "ORDER BY", strings.Join(order, ", "))
	}
	if q.Limit != -1 {
		parts = append(parts, "LIMIT", fmt.Sprint(q.Limit))
	}
	if q.Offset != 0 {
		parts = append(parts, "OFFSET", fmt.Sprint(q.Offset))
	}
	return strings.Join(parts, " ")
}

func plainSelect(s api.Select) []string {
	parts := []string{"SELECT"}
	if s.Distinct {
		parts = append(parts, "DISTINCT")
	}
	var items []string
	for _, i := range s.Items {
		switch {
		case i.Star:
			items = append(items, "*")
		case i.As != "":
			items = append(items, at(i.Expr, 1)+" AS "+plainName(i.As))
		default:
			items = append(items, at(i.Expr, 1))
		}
	}
	parts = append(parts, strings.Join(items, ", "))
	for k, f := range s.From {
		name := plainName(f.Table)
		if f.As != "" {
			name += " AS " + plainName(f.As)
		}
		switch {
		case k == 0:
			parts = append(parts, "FROM", name)
		case len(f.On) == 0:
			parts[len(parts)-1] += ", " + name
		case f.Left:
			parts = append(parts, "LEFT JOIN", name, "ON", at(f.On[0], 1))
		default:
			parts = append(parts, "JOIN", name, "ON", at(f.On[0], 1))
		}
	}
	for _, e := range s.Where {
		parts = append(parts, "WHERE", at(e, 1))
	}
	if len(s.Group) > 0 {
		parts = append(parts, "GROUP BY", plainList(s.Group))
	}
	for _, e := range s.Having {
		parts = append(parts, "HAVING", at(e, 1))
	}
	return parts
}
