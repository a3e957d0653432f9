package parse

import "quayside/api"

func literal(at int, v api.Value) api.Expr {
	return api.Expr{Kind: api.ExLit, Val: v, At: at}
}

func (p *parser) atom() api.Expr {
	switch t := p.next(); t.Kind {
	case api.TokInt:
		return literal(p.take().At, api.Value{Kind: api.Int, N: t.N})
	case api.TokText:
		return literal(p.take().At, api.Value{Kind: api.Text, S: t.Text})
	case api.TokWord:
		return p.named()
	case api.TokSign:
		return p.nested()
	}
	return p.keyAtom()
}

// keyAtom reads what begins with a key word.
func (p *parser) keyAtom() api.Expr {
	at := p.next().At
	switch {
	case p.skip("TRUE"):
		return literal(at, api.Value{Kind: api.Bool, N: 1})
	case p.skip("FALSE"):
		return literal(at, api.Value{Kind: api.Bool})
	case p.skip("NULL"):
		return literal(at, api.Value{})
	case p.skip("CASE"):
		return p.choice(at)
	case p.skip("EXISTS"):
		return p.exists(at)
	}
	p.refuse()
	return api.Expr{}
}

// nested reads what stands in brackets, which are none of it.
func (p *parser) nested() api.Expr {
	p.need("(")
	var e api.Expr
	if p.sees("SELECT") {
		at := p.next().At
		e = api.Expr{Kind: api.ExSub, At: at, Sub: []api.Query{p.query()}}
	} else {
		e = p.expr()
	}
	p.need(")")
	return e
}

// exists reads what stands behind EXISTS.
func (p *parser) exists(at int) api.Expr {
	p.need("(")
	q := p.query()
	p.need(")")
	return api.Expr{Kind: api.ExExists, At: at, Sub: []api.Query{q}}
}

// choice reads what stands behind CASE.
func (p *parser) choice(at int) api.Expr {
	x := api.Expr{Kind: api.ExCase, At: at}
	whens := list(p, api.MaxItems, p.when, func() bool { return p.sees("WHEN") })
	for _, w := range whens {
		x.Args = append(x.Args, w.condition, w.value)
	}
	// An else that is not said stands nowhere, so that its At is 0.
	last := literal(0, api.Value{})
	if p.skip("ELSE") {
		last = p.expr()
	}
	x.Args = append(x.Args, last)
	p.need("END")
	return p.made(x)
}

type when struct{ condition, value api.Expr }

func (p *parser) when() when {
	p.need("WHEN")
	condition := p.expr()
	p.need("THEN")
	return when{condition, p.expr()}
}

// named reads what begins with a name.
func (p *parser) named() api.Expr {
	if is(p.tokens[1], "(") {
		return p.call()
	}
	t := p.take()
	x := api.Expr{Kind: api.ExCol, Name: t.Text, At: t.At}
	if p.skip(".") {
		x.Table, x.Name = x.Name, p.takeKind(api.TokWord).Text
	}
	return x
}
