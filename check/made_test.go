package check_test

import (
	"cmp"

	"quayside/api"
)

// known is a column of the row, as it is asked, and what it is.
type known struct {
	expr api.Expr
	kind int
}

// maker makes queries of some tables, of about so many expressions yet; one of so many is odd, and often wrong. Each expression begins elsewhere.
type maker struct {
	*dice
	left int
	odd  int
	at   int
	here
}

// here is where an expression stands: columns may be those of the row, or there are aggregates, and what is grouped by.
type here struct {
	row     []known
	grouped bool
	groups  []known
}

func (m *maker) chance(n int) bool { return m.below(n) == 0 }

func (m *maker) next() int {
	m.at += 1 + m.below(3)
	return m.at
}

// anew is an expression again, each part of which begins elsewhere.
func (m *maker) anew(e api.Expr) api.Expr {
	e.At = m.next()
	var args []api.Expr
	for _, a := range e.Args {
		args = append(args, m.anew(a))
	}
	e.Args = args
	return e
}

// expr makes one of a kind, mostly, of so many within one another.
func (m *maker) expr(kind, deep int) api.Expr {
	m.left--
	if m.chance(m.odd) {
		kind = m.below(4)
	}
	if m.chance(m.odd) {
		l := []api.Expr{named("", "none"), named("", "a"), named("x", "a"), call(api.DoCountAll), call(api.DoSum, named("", "d")), named("u", "e"), named("", "twice")}
		return m.anew(l[m.below(len(l))])
	}
	if deep <= 1 || m.left < 0 || m.chance(5) || kind == api.Null {
		return m.leaf(kind)
	}
	switch m.below(24) {
	case 0:
		return m.choice(kind, deep-1)
	case 1, 2:
		return m.with(api.Expr{Kind: api.ExCall, Op: []int{api.DoCoalesce, api.DoLeast, api.DoGreatest}[m.below(3)]}, m.alike(kind, 1+m.below(3)), deep-1)
	case 3:
		return m.with(api.Expr{Kind: api.ExCall, Op: api.DoNullif}, m.alike(kind, 2), deep-1)
	case 4:
		return m.sub(api.Expr{Kind: api.ExSub}, kind, deep)
	case 5, 6, 7, 8, 9, 10:
		if m.grouped {
			return m.sum(kind, deep-1)
		}
	}
	switch kind {
	case api.Int:
		return m.number(deep - 1)
	case api.Text:
		return m.text(deep - 1)
	}
	return m.truth(deep)
}

// leaf is a literal, a column, or what is grouped by.
func (m *maker) leaf(kind int) api.Expr {
	may := m.row
	if m.grouped {
		may = m.groups
	}
	if len(may) > 0 && m.below(5) > 0 {
		for range 9 {
			if k := may[m.below(len(may))]; k.kind == kind || k.kind == api.Null && m.chance(4) || m.chance(m.odd) {
				return m.anew(k.expr)
			}
		}
	}
	if m.chance(12) {
		kind = api.Null
	}
	v := api.Value{Kind: kind}
	switch kind {
	case api.Int:
		v.N = m.below(3) - 1
	case api.Text:
		v.S = []string{"", "a", "it's"}[m.below(3)]
	case api.Bool:
		v.N = m.below(2)
	}
	return api.Expr{Kind: api.ExLit, Val: v, At: m.next()}
}

// with is an expression with arguments of some kinds, that begin behind it.
func (m *maker) with(e api.Expr, kinds []int, deep int) api.Expr {
	e.At = m.next()
	for _, kind := range kinds {
		e.Args = append(e.Args, m.expr(kind, deep))
	}
	return e
}

func (m *maker) alike(kind, n int) []int {
	var l []int
	for range n {
		l = append(l, kind)
	}
	return l
}

func (m *maker) number(deep int) api.Expr {
	switch m.below(6) {
	case 0:
		return m.with(api.Expr{Kind: api.ExUnary, Op: api.DoNeg}, []int{api.Int}, deep)
	case 1:
		return m.with(api.Expr{Kind: api.ExCall, Op: api.DoLength}, []int{api.Text}, deep)
	case 2:
		return m.with(api.Expr{Kind: api.ExCall, Op: api.DoAbs}, []int{api.Int}, deep)
	}
	return m.with(api.Expr{Kind: api.ExBinary, Op: api.DoAdd + m.below(5)}, []int{api.Int, api.Int}, deep)
}

func (m *maker) text(deep int) api.Expr {
	switch m.below(4) {
	case 0:
		return m.with(api.Expr{Kind: api.ExCall, Op: api.DoSubstr}, []int{api.Text, api.Int, api.Int}, deep)
	case 1:
		return m.with(api.Expr{Kind: api.ExCall, Op: api.DoUpper + m.below(2)}, []int{api.Text}, deep)
	}
	return m.with(api.Expr{Kind: api.ExBinary, Op: api.DoCat}, []int{api.Text, api.Text}, deep)
}

func (m *maker) truth(deep int) api.Expr {
	some := 1 + m.below(3)
	down := m.chance(2)
	switch m.below(12) {
	case 0:
		return m.with(api.Expr{Kind: api.ExUnary, Op: api.DoNot}, []int{api.Bool}, deep-1)
	case 1:
		return m.with(api.Expr{Kind: api.ExUnary, Op: api.DoIsNull + m.below(2)}, []int{m.below(4)}, deep-1)
	case 2, 3, 4:
		return m.with(api.Expr{Kind: api.ExBinary, Op: api.DoOr + m.below(2)}, []int{api.Bool, api.Bool}, deep-1)
	case 5:
		return m.with(api.Expr{Kind: api.ExIn, Down: down}, m.alike(some, 2+m.below(3)), deep-1)
	case 6:
		return m.with(api.Expr{Kind: api.ExBetween, Down: down}, m.alike(some, 3), deep-1)
	case 7:
		return m.with(api.Expr{Kind: api.ExLike, Down: down}, []int{api.Text, api.Text}, deep-1)
	case 8:
		return m.sub(api.Expr{Kind: api.ExExists}, some, deep)
	case 9:
		return m.sub(m.with(api.Expr{Kind: api.ExInSub, Down: down}, []int{some}, deep-1), some, deep)
	}
	return m.with(api.Expr{Kind: api.ExBinary, Op: api.DoEq + m.below(6)}, m.alike(some, 2), deep-1)
}

func (m *maker) choice(kind, deep int) api.Expr {
	var l []int
	for range 1 + m.below(2) {
		l = append(l, api.Bool, kind)
	}
	return m.with(api.Expr{Kind: api.ExCase}, append(l, kind), deep)
}

// sum is an aggregate of a kind, if there is one.
func (m *maker) sum(kind, deep int) api.Expr {
	e := api.Expr{Kind: api.ExAgg, Op: api.DoMin + m.below(2), At: m.next()}
	if kind == api.Int {
		e.Op = api.DoCountAll + m.below(5)
	}
	if e.Op == api.DoCountAll {
		return e
	}
	if e.Op == api.DoCount {
		kind = m.below(4)
	}
	m.grouped = false
	if m.chance(2) {
		deep = 1
	}
	e.Args = []api.Expr{m.expr(kind, deep)}
	m.grouped = true
	return e
}

// sub gives an expression a sub-query of one column, mostly.
func (m *maker) sub(e api.Expr, kind, deep int) api.Expr {
	if e.At == 0 {
		e.At = m.next()
	}
	was := m.here
	want := []int{kind}
	if m.chance(m.odd) || e.Kind == api.ExExists {
		want = append(want, m.below(4))
	}
	e.Sub = []api.Query{m.query(want, deep/2)}
	m.here = was
	return e
}

func (m *maker) conditions(deep int) []api.Expr {
	if m.chance(2) {
		return nil
	}
	return []api.Expr{m.expr(api.Bool, deep)}
}

// from adds sources, and what may be asked of them.
func (m *maker) from(s *api.Select, deep int) {
	goes := []string{"t", "u", "v", "T", "a", "x"}
	var of []string
	var columns []api.Column
	for n := range m.below(4) {
		f := api.Source{Table: []string{"t", "u", "t", "v", "T"}[m.below(5)], As: goes[2*n+m.below(2)], At: m.next(), Left: n > 0 && m.chance(3)}
		if m.chance(m.odd) {
			f.As, f.Table = goes[m.below(3)], []string{"t", "bare", "none", "u"}[m.below(4)]
		}
		if m.chance(6) {
			f.As = ""
		}
		for _, t := range some() {
			if t.Name == f.Table {
				for _, c := range t.Columns {
					of, columns = append(of, cmp.Or(f.As, f.Table)), append(columns, c)
				}
				break
			}
		}
		m.row = asked(of, columns)
		if n > 0 {
			f.On = m.conditions(deep)
		}
		if f.Left && len(f.On) == 0 {
			f.On = []api.Expr{m.expr(api.Bool, deep)}
		}
		s.From = append(s.From, f)
	}
}

// asked is how columns may be asked of sources that go by names.
func asked(of []string, columns []api.Column) []known {
	times := map[string]int{}
	for k, c := range columns {
		times[c.Name]++
		times[of[k]+"."+c.Name]++
	}
	var l []known
	for k, c := range columns {
		if times[of[k]+"."+c.Name] == 1 {
			l = append(l, known{named(of[k], c.Name), c.Kind})
		}
		if times[c.Name] == 1 {
			l = append(l, known{named("", c.Name), c.Kind})
		}
	}
	return l
}

// selected makes a select with columns of some kinds.
func (m *maker) selected(kinds []int, deep int) api.Select {
	deep = max(deep, 1)
	m.here = here{}
	s := api.Select{Distinct: m.chance(4)}
	m.from(&s, deep)
	s.Where = m.conditions(deep)
	grouped := m.chance(3)
	if grouped {
		var groups []known
		for range m.below(4) {
			kind := 1 + m.below(3)
			groups = append(groups, known{m.expr(kind, 1+m.below(3)), kind})
			s.Group = append(s.Group, groups[len(groups)-1].expr)
		}
		m.groups = groups
	}
	m.grouped = grouped
	for _, kind := range kinds {
		i := api.Item{As: []string{"", "", "p", "q", "a"}[m.below(5)]}
		i.Star = m.chance(m.odd)
		if !i.Star {
			i.Expr = m.expr(kind, deep)
		}
		s.Items = append(s.Items, i)
	}
	if grouped && m.chance(2) || m.chance(m.odd) {
		s.Having = []api.Expr{m.expr(api.Bool, deep)}
	}
	return s
}

// query makes one with columns of some kinds.
func (m *maker) query(kinds []int, deep int) api.Query {
	q := api.Query{Limit: m.below(4) - 1}
	if q.Limit >= 0 {
		q.Offset = m.below(3)
	}
	for n := range 1 + m.below(5)/3 + m.below(6)/5 {
		want := kinds
		if m.chance(m.odd) {
			want = append([]int{m.below(4)}, kinds[m.below(2):]...)
		}
		s := m.selected(want, deep)
		if n > 0 {
			s.How = api.SetAll + m.below(4)
		}
		q.Selects = append(q.Selects, s)
	}
	for range m.below(3) {
		k := api.Key{Place: 1 + m.below(len(kinds)), Down: m.chance(2), At: m.next()}
		if m.chance(m.odd) {
			k.Place = []int{-1, len(kinds) + 1, 16, 1 << 40}[m.below(4)]
		}
		if name := q.Selects[0].Items[m.below(len(kinds))].As; name != "" && m.chance(2) {
			k.Place, k.Name = 0, name
		}
		q.Order = append(q.Order, k)
	}
	return q
}
