package parse

import "quayside/api"

const maxSelects = 8

func (p *parser) query() api.Query {
	p.enter()
	q := api.Query{Selects: p.selects(), Limit: -1}
	if p.skip("ORDER") {
		p.need("BY")
		q.Order = list(p, api.MaxItems, p.key, p.comma)
	}
	if p.skip("LIMIT") {
		q.Limit = p.takeKind(api.TokInt).N
		if p.skip("OFFSET") {
			q.Offset = p.takeKind(api.TokInt).N
		}
	}
	p.leave()
	return q
}

func (p *parser) selects() []api.Select {
	how := api.SetNone
	one := func() api.Select { return p.selectOne(how) }
	return list(p, maxSelects, one, func() bool {
		how = p.joining()
		return how != api.SetNone
	})
}

// joining goes over how the next select is joined to those ahead, if there is one more.
func (p *parser) joining() int {
	switch {
	case p.skip("UNION"):
		if p.skip("ALL") {
			return api.SetAll
		}
		return api.SetUnion
	case p.skip("INTERSECT"):
		return api.SetIntersect
	case p.skip("EXCEPT"):
		return api.SetExcept
	}
	return api.SetNone
}

func (p *parser) selectOne(how int) api.Select {
	p.need("SELECT")
	s := api.Select{How: how, Distinct: p.skip("DISTINCT")}
	s.Items = list(p, api.MaxItems, p.item, p.comma)
	if p.skip("FROM") {
		s.From = p.sources()
	}
	s.Where = p.condition("WHERE")
	if p.skip("GROUP") {
		p.need("BY")
		s.Group = list(p, api.MaxItems, p.expr, p.comma)
	}
	s.Having = p.condition("HAVING")
	return s
}

// condition is the one behind a key word, if that is there.
func (p *parser) condition(word string) []api.Expr {
	if !p.skip(word) {
		return nil
	}
	return []api.Expr{p.expr()}
}

func (p *parser) item() api.Item {
	if p.skip("*") {
		return api.Item{Star: true}
	}
	i := api.Item{Expr: p.expr()}
	if p.skip("AS") {
		i.As = p.takeKind(api.TokWord).Text
	}
	return i
}

func (p *parser) sources() []api.Source {
	left, joined := false, false
	one := func() api.Source { return p.source(left, joined) }
	return list(p, api.MaxTables, one, func() bool {
		left, joined = p.join()
		return joined || p.comma()
	})
}

// join goes over the words ahead of a source that is joined by a condition, if there is one.
func (p *parser) join() (left, joined bool) {
	left = p.skip("LEFT")
	if left || p.skip("INNER") {
		p.need("JOIN")
		return left, true
	}
	return false, p.skip("JOIN")
}

func (p *parser) source(left, joined bool) api.Source {
	t := p.takeKind(api.TokWord)
	s := api.Source{Table: t.Text, Left: left, At: t.At}
	if p.skip("AS") || p.next().Kind == api.TokWord {
		s.As = p.takeKind(api.TokWord).Text
	}
	if joined {
		p.need("ON")
		s.On = []api.Expr{p.expr()}
	}
	return s
}

func (p *parser) key() api.Key {
	t := p.next()
	// Places count from 1 on, so that 0 is none.
	if t.Kind != api.TokWord && (t.Kind != api.TokInt || t.N == 0) {
		p.refuse()
	}
	p.take()
	down := p.skip("DESC")
	if !down {
		p.skip("ASC")
	}
	return api.Key{Place: t.N, Name: t.Text, Down: down, At: t.At}
}
