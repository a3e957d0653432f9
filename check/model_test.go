package check_test

import (
	"strings"

	"quayside/api"
)

// rule is a row of the chapter's table: of which kind arguments must be (a letter for each argument, the last one for all others; =: agreeing; *: any), of which kind it is (=: theirs), and whether it may be null.
type rule struct{ must, kind, null string }

const kinds = "NITB"

// functions are the rules of what is done, by what it is.
func functions() map[int]rule {
	m := map[int]rule{
		api.DoIsNull: {"*", "B", "no"}, api.DoNotNull: {"*", "B", "no"},
		api.DoLength: {"T", "I", "one"}, api.DoSubstr: {"TII", "T", "one"}, api.DoCoalesce: {"=", "=", "all"}, api.DoNullif: {"=", "=", "yes"},
		api.DoLeast: {"=", "=", "one"}, api.DoGreatest: {"=", "=", "one"},
		api.DoCountAll: {"*", "I", "no"}, api.DoCount: {"*", "I", "no"}, api.DoSum: {"I", "I", "yes"}, api.DoMin: {"=", "=", "yes"}, api.DoMax: {"=", "=", "yes"},
	}
	for _, op := range []int{api.DoNot, api.DoAnd, api.DoOr} {
		m[op] = rule{"B", "B", "one"}
	}
	for _, op := range []int{api.DoEq, api.DoNe, api.DoLt, api.DoLe, api.DoGt, api.DoGe} {
		m[op] = rule{"=", "B", "one"}
	}
	for _, op := range []int{api.DoNeg, api.DoAdd, api.DoSub, api.DoMul, api.DoDiv, api.DoMod, api.DoAbs} {
		m[op] = rule{"I", "I", "one"}
	}
	for _, op := range []int{api.DoCat, api.DoUpper, api.DoLower} {
		m[op] = rule{"T", "T", "one"}
	}
	return m
}

func ruleOf(e api.Expr) rule {
	switch e.Kind {
	case api.ExIn, api.ExBetween:
		return rule{"=", "B", "one"}
	case api.ExLike:
		return rule{"T", "B", "one"}
	case api.ExSub:
		return rule{"=", "=", "yes"}
	case api.ExInSub:
		return rule{"=", "B", "yes"}
	case api.ExExists:
		return rule{"*", "B", "no"}
	}
	return functions()[e.Op]
}

// plainAgree is the kind of all, by its letter; "": they do not agree.
func plainAgree(are []api.Column) string {
	kind := "N"
	for _, c := range are {
		letter := kinds[c.Kind : c.Kind+1]
		if kind == "N" {
			kind = letter
		} else if letter != "N" && letter != kind {
			return ""
		}
	}
	return kind
}

// plainIs is what an expression is, as the chapter's table says; false: its arguments are not as they must be.
func plainIs(e api.Expr, are []api.Column) (api.Column, bool) {
	r := ruleOf(e)
	if e.Kind == api.ExCase {
		var values []api.Column
		for k, c := range are {
			if k%2 == 1 || k == len(are)-1 {
				values = append(values, c)
			} else if c.Kind == api.Int || c.Kind == api.Text {
				return api.Column{}, false
			}
		}
		r, are = rule{"=", "=", "one"}, values
	}
	agreed := plainAgree(are)
	for k, c := range are {
		must := r.must[min(k, len(r.must)-1)]
		if must == '=' && agreed == "" || must != '=' && must != '*' && c.Kind != api.Null && kinds[c.Kind] != must {
			return api.Column{}, false
		}
	}
	if r.kind == "=" {
		r.kind = agreed
	}
	nulls := 0
	for _, c := range are {
		if c.Null {
			nulls++
		}
	}
	null := map[string]bool{"one": nulls > 0, "all": nulls == len(are), "yes": true, "no": false}[r.null]
	return api.Column{Kind: strings.Index(kinds, r.kind), Null: null}, true
}

// faulty is what is wrong, and where.
type faulty struct {
	at int
	e  api.Errno
}

// valued is an expression that was checked, and what it is.
type valued struct {
	expr api.Expr
	is   api.Column
}

// plain is a select that is gone over just as the chapter says it: what was not the same as a group is looked at again, part by part.
type plain struct {
	tables  []api.Schema
	names   []string // of the source of each column
	columns []api.Column
	subs    *[]api.Core
	grouped bool // in items and HAVING of a grouped select
	groups  []valued
	aggs    *[]valued
}

func asksSub(e api.Expr) bool {
	found := len(e.Sub) > 0
	for _, a := range e.Args {
		found = found || asksSub(a)
	}
	return found
}

// found is the place of the one that is the same; -1: there is none.
func found(l []valued, x api.Expr) int {
	for k, v := range l {
		if shown(v.expr) == shown(x) {
			return k
		}
	}
	return -1
}

func (m plain) expr(e api.Expr) (valued, *faulty) {
	of := m
	of.grouped = false
	if m.grouped && !asksSub(e) {
		if v, bad := of.expr(e); bad == nil && found(m.groups, v.expr) >= 0 {
			return valued{column(found(m.groups, v.expr)), v.is}, nil
		}
	}
	x := api.Expr{Kind: e.Kind, Op: e.Op, Val: e.Val, Down: e.Down}
	if e.Kind != api.ExAgg {
		of = m
	}
	var are []api.Column
	for _, a := range e.Args {
		v, bad := of.expr(a)
		if bad != nil {
			return valued{}, bad
		}
		x.Args, are = append(x.Args, v.expr), append(are, v.is)
	}
	var sub api.Core
	for _, q := range e.Sub {
		var bad *faulty
		if sub, bad = plainQuery(q, m.tables); bad != nil {
			return valued{}, bad
		}
		x.Col = len(*m.subs)
		*m.subs = append(*m.subs, sub)
	}
	switch e.Kind {
	case api.ExLit:
		return valued{x, api.Column{Kind: e.Val.Kind, Null: e.Val.Kind == api.Null}}, nil
	case api.ExCol:
		return m.column(e)
	case api.ExAgg:
		if !m.grouped {
			return valued{}, &faulty{e.At, api.ErrGroup}
		}
	case api.ExSub, api.ExInSub:
		if len(sub.Columns) != 1 {
			return valued{}, &faulty{e.At, api.ErrWidth}
		}
		are = append(are, sub.Columns...)
	}
	is, ok := plainIs(e, are)
	if !ok {
		return valued{}, &faulty{e.At, api.ErrType}
	}
	if e.Kind == api.ExAgg {
		k := found(*m.aggs, x)
		if k < 0 || asksSub(e) {
			k = len(*m.aggs)
			*m.aggs = append(*m.aggs, valued{x, is})
		}
		x = column(len(m.groups) + k)
	}
	return valued{x, is}, nil
}

func (m plain) column(e api.Expr) (valued, *faulty) {
	var l []valued
	for k, c := range m.columns {
		if c.Name == e.Name && (e.Table == "" || e.Table == m.names[k]) {
			l = append(l, valued{column(k), api.Column{Kind: c.Kind, Null: c.Null}})
		}
	}
	if len(l) != 1 {
		return valued{}, &faulty{e.At, api.ErrName}
	}
	if m.grouped {
		return valued{}, &faulty{e.At, api.ErrGroup}
	}
	return l[0], nil
}

// ands are the parts of what stands between ANDs.
func ands(e api.Expr) []api.Expr {
	if e.Kind == api.ExBinary && e.Op == api.DoAnd {
		return append(ands(e.Args[0]), ands(e.Args[1])...)
	}
	return []api.Expr{e}
}

// truths are conditions, of which there is one, or none.
func (m plain) truths(l []api.Expr) ([]api.Expr, *faulty) {
	var out []api.Expr
	for _, e := range l {
		v, bad := m.expr(e)
		if bad == nil && v.is.Kind != api.Bool && v.is.Kind != api.Null {
			bad = &faulty{e.At, api.ErrType}
		}
		if bad != nil {
			return nil, bad
		}
		out = append(out, ands(v.expr)...)
	}
	return out, nil
}

// from goes over the sources of a select.
func (m *plain) from(s api.Select, p *api.Part) *faulty {
	var goes []string
	for _, f := range s.From {
		name, known := f.As, false
		if name == "" {
			name = f.Table
		}
		for _, t := range m.tables {
			if t.Name == f.Table && !known {
				known = true
				for _, c := range t.Columns {
					m.names = append(m.names, name)
					m.columns = append(m.columns, api.Column{Name: c.Name, Kind: c.Kind, Null: c.Null || f.Left})
				}
			}
		}
		for _, other := range goes {
			known = known && other != name
		}
		if !known {
			return &faulty{f.At, api.ErrName}
		}
		goes = append(goes, name)
		on, bad := m.truths(f.On)
		if bad != nil {
			return bad
		}
		p.Tables, p.Left, p.On = append(p.Tables, f.Table), append(p.Left, f.Left), append(p.On, on)
	}
	return nil
}

func hasAggregate(e api.Expr) bool {
	has := e.Kind == api.ExAgg
	for _, a := range e.Args {
		has = has || hasAggregate(a)
	}
	return has
}

// selected is a select, and its columns.
func (m *plain) selected(s api.Select) (api.Part, []api.Column, *faulty) {
	p := api.Part{How: s.How, Distinct: s.Distinct, Grouped: len(s.Group)+len(s.Having) > 0}
	bad := m.from(s, &p)
	if bad == nil {
		p.Where, bad = m.truths(s.Where)
	}
	if bad != nil {
		return p, nil, bad
	}
	for _, e := range s.Group {
		v, bad := m.expr(e)
		if bad != nil {
			return p, nil, bad
		}
		m.groups, p.Group = append(m.groups, v), append(p.Group, v.expr)
	}
	for _, i := range s.Items {
		p.Grouped = p.Grouped || !i.Star && hasAggregate(i.Expr)
	}
	m.grouped, m.aggs = p.Grouped, &[]valued{}
	var columns []api.Column
	for _, i := range s.Items {
		items, are, bad := m.item(i, len(s.From))
		if bad != nil {
			return p, nil, bad
		}
		p.Items, columns = append(p.Items, items...), append(columns, are...)
	}
	p.Having, bad = m.truths(s.Having)
	for _, v := range *m.aggs {
		p.Aggs = append(p.Aggs, v.expr)
	}
	return p, columns, bad
}

func (m *plain) item(i api.Item, sources int) ([]api.Expr, []api.Column, *faulty) {
	if !i.Star {
		v, bad := m.expr(i.Expr)
		v.is.Name = i.As
		if i.As == "" && i.Expr.Kind == api.ExCol {
			v.is.Name = i.Expr.Name
		}
		return []api.Expr{v.expr}, []api.Column{v.is}, bad
	}
	if sources == 0 {
		return nil, nil, &faulty{0, api.ErrName}
	}
	if m.grouped {
		return nil, nil, &faulty{0, api.ErrGroup}
	}
	var l []api.Expr
	for k := range m.columns {
		l = append(l, column(k))
	}
	return l, m.columns, nil
}

// plainQuery is what a query means, as the chapter says it.
func plainQuery(q api.Query, tables []api.Schema) (api.Core, *faulty) {
	c := api.Core{Limit: q.Limit, Offset: q.Offset}
	for n, s := range q.Selects {
		m := &plain{tables: tables, subs: &c.Subs}
		p, columns, bad := m.selected(s)
		if bad != nil {
			return api.Core{}, bad
		}
		c.Parts = append(c.Parts, p)
		if n == 0 {
			c.Columns = columns
		}
		if len(columns) != len(c.Columns) {
			return api.Core{}, &faulty{0, api.ErrWidth}
		}
		for k := range columns {
			kind := plainAgree([]api.Column{c.Columns[k], columns[k]})
			if kind == "" {
				return api.Core{}, &faulty{0, api.ErrType}
			}
			c.Columns[k].Kind, c.Columns[k].Null = strings.Index(kinds, kind), c.Columns[k].Null || columns[k].Null
		}
	}
	for _, k := range q.Order {
		var l []int
		for n, x := range c.Columns {
			if k.Place == n+1 || k.Place == 0 && k.Name == x.Name {
				l = append(l, n)
			}
		}
		if len(l) != 1 {
			return api.Core{}, &faulty{k.At, api.ErrName}
		}
		c.Order = append(c.Order, api.Sort{Col: l[0], Down: k.Down})
	}
	return c, nil
}
