package parse

import (
	"strings"

	"quayside/api"
)

// function is what one does, and how many arguments it takes.
type function struct{ kind, op, least, most int }

// functionOf is the function of a name; the zero value, if there is none.
func functionOf(name string) function {
	switch strings.Map(capital, name) {
	case "COUNT":
		return function{api.ExAgg, api.DoCount, 1, 1}
	case "SUM":
		return function{api.ExAgg, api.DoSum, 1, 1}
	case "MIN":
		return function{api.ExAgg, api.DoMin, 1, 1}
	case "MAX":
		return function{api.ExAgg, api.DoMax, 1, 1}
	case "ABS":
		return function{api.ExCall, api.DoAbs, 1, 1}
	case "LENGTH":
		return function{api.ExCall, api.DoLength, 1, 1}
	case "UPPER":
		return function{api.ExCall, api.DoUpper, 1, 1}
	case "LOWER":
		return function{api.ExCall, api.DoLower, 1, 1}
	case "SUBSTR":
		return function{api.ExCall, api.DoSubstr, 3, 3}
	case "NULLIF":
		return function{api.ExCall, api.DoNullif, 2, 2}
	case "COALESCE":
		return function{api.ExCall, api.DoCoalesce, 1, api.MaxItems}
	case "LEAST":
		return function{api.ExCall, api.DoLeast, 1, api.MaxItems}
	case "GREATEST":
		return function{api.ExCall, api.DoGreatest, 1, api.MaxItems}
	}
	return function{}
}

// capital is the great letter of a small one, of a to z alone: the library's knows others, which are no letters of a function.
func capital(r rune) rune {
	if 'a' <= r && r <= 'z' {
		return r - 'a' + 'A'
	}
	return r
}

// call reads a function and its arguments.
func (p *parser) call() api.Expr {
	name := p.next()
	f := functionOf(name.Text)
	if f.op == 0 {
		p.refuse()
	}
	p.take()
	p.need("(")
	x := api.Expr{Kind: f.kind, Op: f.op, At: name.At}
	all := p.skip("*")
	if !all && !p.sees(")") {
		x.Args = list(p, api.MaxItems, p.expr, p.comma)
	}
	p.need(")")
	if all && f.op == api.DoCount {
		x.Op = api.DoCountAll
		return x
	}
	if len(x.Args) < f.least || len(x.Args) > f.most {
		panic(fault{name.At, api.ErrParse})
	}
	return p.made(x)
}
