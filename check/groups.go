package check

import "quayside/api"

// groups are what each group of a select has: the values by which it is one, and those of aggregates behind them.
type groups struct {
	names  names
	values []api.Expr
	are    []api.Column
}

// value is the column of a group that an expression is; false: it is none yet.
func (g *groups) value(e *api.Expr) (api.Expr, api.Column, bool) {
	for k := range g.values {
		if g.same(e, &g.values[k]) {
			return columnAt(k), g.are[k], true
		}
	}
	return api.Expr{}, api.Column{}, false
}

// add adds a value, and is the column that it is.
func (g *groups) add(x api.Expr, is api.Column) (api.Expr, api.Column) {
	g.values, g.are = append(g.values, x), append(g.are, is)
	return columnAt(len(g.values) - 1), is
}

func columnAt(col int) api.Expr { return api.Expr{Kind: api.ExCol, Col: col} }

// same is whether an expression, once it is checked, is a value. One that asks a sub-query never is.
func (g *groups) same(e, value *api.Expr) bool {
	if asks(e) || e.Kind != value.Kind || len(e.Args) != len(value.Args) {
		return false
	}
	x := bare(e)
	if e.Kind == api.ExCol {
		col, _, ok := g.names(e.Table, e.Name)
		if !ok {
			return false
		}
		x.Col = col
	}
	if x.Op != value.Op || x.Val != value.Val || x.Col != value.Col || x.Down != value.Down {
		return false
	}
	for k := range e.Args {
		if !g.same(&e.Args[k], &value.Args[k]) {
			return false
		}
	}
	return true
}

func asks(e *api.Expr) bool {
	switch e.Kind {
	case api.ExSub, api.ExInSub, api.ExExists:
		return true
	}
	return len(e.Sub) > 0
}
