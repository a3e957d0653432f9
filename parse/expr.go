package parse

import "quayside/api"

// How strong what stands between two expressions binds.
const (
	orLevel = 1 + iota
	andLevel
	testLevel
	sumLevel
	productLevel
)

// between is what a key word or a sign does to the two between which it stands, and how strong it binds them.
func between(text string) (op, level int) {
	switch text {
	case "OR":
		return api.DoOr, orLevel
	case "AND":
		return api.DoAnd, andLevel
	case "=":
		return api.DoEq, testLevel
	case "<>":
		return api.DoNe, testLevel
	case "<":
		return api.DoLt, testLevel
	case "<=":
		return api.DoLe, testLevel
	case ">":
		return api.DoGt, testLevel
	case ">=":
		return api.DoGe, testLevel
	case "+":
		return api.DoAdd, sumLevel
	case "-":
		return api.DoSub, sumLevel
	case "||":
		return api.DoCat, sumLevel
	case "*":
		return api.DoMul, productLevel
	case "/":
		return api.DoDiv, productLevel
	case "%":
		return api.DoMod, productLevel
	}
	return 0, 0
}

// operation goes over what binds two so strong, if it is there: what it does; 0, if it is not.
func (p *parser) operation(level int) int {
	t := p.next()
	op, is := between(t.Text)
	if is != level || t.Kind != api.TokKey && t.Kind != api.TokSign {
		return 0
	}
	p.take()
	return op
}

// made is an expression that was read whole, unless it is too deep.
func (p *parser) made(e api.Expr) api.Expr {
	if Deep(e) > api.MaxDepth {
		panic(fault{e.At, api.ErrDeep})
	}
	return e
}

// chain reads some, and what binds them so strong; they are nested to the left.
func (p *parser) chain(one func() api.Expr, level int) api.Expr {
	e := one()
	for op := p.operation(level); op != 0; op = p.operation(level) {
		e = p.made(api.Expr{Kind: api.ExBinary, Op: op, At: e.At, Args: []api.Expr{e, one()}})
	}
	return e
}

func (p *parser) expr() api.Expr {
	p.enter()
	e := p.chain(p.and, orLevel)
	p.leave()
	return e
}

func (p *parser) and() api.Expr { return p.chain(p.not, andLevel) }

func (p *parser) not() api.Expr {
	if !p.sees("NOT") {
		return p.test()
	}
	return p.ahead(api.DoNot, p.not)
}

// ahead reads what stands ahead of an expression, and that.
func (p *parser) ahead(op int, one func() api.Expr) api.Expr {
	p.enter()
	t := p.take()
	e := p.made(api.Expr{Kind: api.ExUnary, Op: op, At: t.At, Args: []api.Expr{one()}})
	p.leave()
	return e
}

func (p *parser) test() api.Expr {
	e := p.sum()
	if op := p.operation(testLevel); op != 0 {
		return p.made(api.Expr{Kind: api.ExBinary, Op: op, At: e.At, Args: []api.Expr{e, p.sum()}})
	}
	if p.skip("IS") {
		return p.isNull(e)
	}
	return p.oneOf(e, p.skip("NOT"))
}

// isNull is the test of an expression behind which IS stands.
func (p *parser) isNull(e api.Expr) api.Expr {
	op := api.DoIsNull
	if p.skip("NOT") {
		op = api.DoNotNull
	}
	p.need("NULL")
	return p.made(api.Expr{Kind: api.ExUnary, Op: op, At: e.At, Args: []api.Expr{e}})
}

// oneOf is the test of an expression that may stand behind NOT; without NOT there may be none.
func (p *parser) oneOf(e api.Expr, down bool) api.Expr {
	switch {
	case p.skip("IN"):
		return p.in(e, down)
	case p.skip("BETWEEN"):
		low := p.sum()
		p.need("AND")
		return p.made(api.Expr{Kind: api.ExBetween, Down: down, At: e.At, Args: []api.Expr{e, low, p.sum()}})
	case p.skip("LIKE"):
		return p.made(api.Expr{Kind: api.ExLike, Down: down, At: e.At, Args: []api.Expr{e, p.sum()}})
	case down:
		p.refuse()
	}
	return e
}

// in is the test of an expression behind which IN stands.
func (p *parser) in(e api.Expr, down bool) api.Expr {
	x := api.Expr{Kind: api.ExIn, Down: down, At: e.At, Args: []api.Expr{e}}
	p.need("(")
	if p.sees("SELECT") {
		x.Kind = api.ExInSub
		x.Sub = []api.Query{p.query()}
	} else {
		x.Args = append(x.Args, list(p, api.MaxItems, p.expr, p.comma)...)
	}
	p.need(")")
	return p.made(x)
}

func (p *parser) sum() api.Expr { return p.chain(p.product, sumLevel) }

func (p *parser) product() api.Expr { return p.chain(p.minus, productLevel) }

func (p *parser) minus() api.Expr {
	if !p.sees("-") {
		return p.atom()
	}
	if p.tokens[1].Kind != api.TokInt {
		return p.ahead(api.DoNeg, p.minus)
	}
	t := p.take()
	return literal(t.At, api.Value{Kind: api.Int, N: -p.take().N})
}
