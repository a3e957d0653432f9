package check

import (
	"slices"

	"quayside/api"
)

// part checks a select; its sub-queries go behind the others.
func (r *run) part(s *api.Select, subs *[]api.Core) (api.Part, []api.Column) {
	p := api.Part{How: s.How, Distinct: s.Distinct}
	w := &row{}
	here := place{run: r, names: w.names(), subs: subs}
	for k := range s.From {
		f := &s.From[k]
		r.source(f, w)
		p.Tables, p.Left = append(p.Tables, f.Table), append(p.Left, f.Left)
		p.On = append(p.On, here.conditions(f.On))
	}
	p.Where = here.conditions(s.Where)
	g := &groups{names: here.names}
	for k := range s.Group {
		x, is := here.expr(&s.Group[k])
		g.values, g.are = append(g.values, x), append(g.are, is)
	}
	if p.Grouped = r.grouped(s); p.Grouped {
		here.groups = g
	}
	var columns []api.Column
	for k := range s.Items {
		items, are := here.item(&s.Items[k], w)
		p.Items, columns = append(p.Items, items...), append(columns, are...)
	}
	p.Having = here.conditions(s.Having)
	p.Group, p.Aggs = slices.Clone(g.values[:len(s.Group)]), slices.Clone(g.values[len(s.Group):])
	return p, columns
}

// grouped is whether a select is.
func (r *run) grouped(s *api.Select) bool {
	if len(s.Group) > 0 || len(s.Having) > 0 {
		return true
	}
	for k := range s.Items {
		if !s.Items[k].Star && r.sums(&s.Items[k].Expr) {
			return true
		}
	}
	return false
}

// sums is whether an aggregate stands in an expression, its sub-queries aside.
func (r *run) sums(e *api.Expr) bool {
	if e.Kind == api.ExAgg {
		return true
	}
	r.enter(e)
	defer r.leave()
	for k := range e.Args {
		if r.sums(&e.Args[k]) {
			return true
		}
	}
	return false
}

// item is what an item answers, and its columns.
func (p place) item(i *api.Item, w *row) ([]api.Expr, []api.Column) {
	if i.Star {
		return p.all(w)
	}
	x, is := p.expr(&i.Expr)
	switch {
	case i.As != "":
		is.Name = i.As
	case i.Expr.Kind == api.ExCol:
		is.Name = i.Expr.Name
	}
	return []api.Expr{x}, []api.Column{is}
}

// all are all columns of a row.
func (p place) all(w *row) ([]api.Expr, []api.Column) {
	if len(w.goes) == 0 {
		refuse(0, api.ErrName)
	}
	if p.groups != nil {
		refuse(0, api.ErrGroup)
	}
	p.count(len(w.columns), 0)
	var l []api.Expr
	for k := range w.columns {
		l = append(l, columnAt(k))
	}
	return l, w.columns
}

// conditions are the parts of conditions, all of which must be true.
func (p place) conditions(l []api.Expr) []api.Expr {
	var parts []api.Expr
	for k := range l {
		x, is := p.expr(&l[k])
		if _, ok := agree(is, api.Column{Kind: api.Bool}); !ok {
			refuse(l[k].At, api.ErrType)
		}
		parts = parted(parts, x)
	}
	return parts
}

// parted puts the parts of a condition between ANDs behind others.
func parted(parts []api.Expr, x api.Expr) []api.Expr {
	if x.Kind != api.ExBinary || x.Op != api.DoAnd {
		return append(parts, x)
	}
	for _, a := range x.Args {
		parts = parted(parts, a)
	}
	return parts
}
