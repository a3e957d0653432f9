package check

import "quayside/api"

// place is where an expression stands: what it may be there, and what it means.
type place struct {
	*run
	names  names
	subs   *[]api.Core // behind which its sub-queries go; nil: there may be none
	groups *groups     // whose values columns must be; nil: they are those of a row
}

// expr checks an expression, and tells what it is.
func (p place) expr(e *api.Expr) (api.Expr, api.Column) {
	p.enter(e)
	defer p.leave()
	if p.groups == nil {
		return p.own(e)
	}
	if x, is, ok := p.groups.value(e); ok {
		return x, is
	}
	if e.Kind == api.ExAgg {
		return p.groups.add(p.own(e))
	}
	return p.own(e)
}

// own checks an expression that is the value of no group.
func (p place) own(e *api.Expr) (api.Expr, api.Column) {
	x, are := p.args(e)
	switch e.Kind {
	case api.ExCol:
		x.Col, are = p.column(e)
	case api.ExAgg:
		if p.groups == nil {
			refuse(e.At, api.ErrGroup)
		}
	case api.ExSub, api.ExInSub:
		var value api.Column
		x.Col, value = p.valueOfSub(e)
		are = append(are, value)
	case api.ExExists:
		x.Col, _ = p.sub(e)
	}
	is, ok := what(e, are)
	if !ok {
		refuse(e.At, api.ErrType)
	}
	return x, is
}

// args checks an expression's arguments, and tells what they are.
func (p place) args(e *api.Expr) (api.Expr, []api.Column) {
	x := bare(e)
	if e.Kind == api.ExAgg {
		p.groups = nil
	}
	var are []api.Column
	for k := range e.Args {
		a, is := p.expr(&e.Args[k])
		x.Args, are = append(x.Args, a), append(are, is)
	}
	return x, are
}

// column is a column's number, and what its value is.
func (p place) column(e *api.Expr) (int, []api.Column) {
	col, is, ok := p.names(e.Table, e.Name)
	if !ok {
		refuse(e.At, api.ErrName)
	}
	if p.groups != nil {
		refuse(e.At, api.ErrGroup)
	}
	return col, []api.Column{is}
}

// valueOfSub is a sub-query's number, and what its value is, which counts as one more argument.
func (p place) valueOfSub(e *api.Expr) (int, api.Column) {
	n, columns := p.sub(e)
	if len(columns) != 1 {
		refuse(e.At, api.ErrWidth)
	}
	return n, api.Column{Kind: columns[0].Kind, Null: true}
}

// sub is a sub-query's number, and its columns.
func (p place) sub(e *api.Expr) (int, []api.Column) {
	if p.subs == nil {
		refuse(e.At, api.ErrName)
	}
	var c api.Core
	for k := range e.Sub {
		c = p.query(&e.Sub[k])
	}
	*p.subs = append(*p.subs, c)
	return len(*p.subs) - 1, c.Columns
}

// bare is what is kept of an expression, whatever its arguments are.
func bare(e *api.Expr) api.Expr {
	x := api.Expr{Kind: e.Kind}
	switch e.Kind {
	case api.ExLit:
		x.Val = e.Val
	case api.ExUnary, api.ExBinary, api.ExAgg, api.ExCall:
		x.Op = e.Op
	case api.ExIn, api.ExBetween, api.ExLike, api.ExInSub:
		x.Down = e.Down
	}
	return x
}
