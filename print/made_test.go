package print_test

import "quayside/api"

// dice are numbers that look like any, the same ones each time.
type dice uint64

func (x *dice) below(n int) int {
	*x ^= *x << 13
	*x ^= *x >> 7
	*x ^= *x << 17
	return int(uint64(*x) >> 20 % uint64(n))
}

// maker makes expressions and queries, of about so many parts yet.
type maker struct {
	*dice
	left int
}

var names = []string{"a", "b", "t", "u", "sum", "COUNT", "Select", "NULL", "_1", "1a", "a b", "it's", `"`, `a"b""`, "(", "é", "\n", "--", "."}

func (m *maker) name() string { return names[m.below(len(names))] }

func (m *maker) maybeName() string {
	if m.below(2) == 0 {
		return ""
	}
	return m.name()
}

func (m *maker) value() api.Value {
	switch m.below(4) {
	case 0:
		return api.Value{}
	case 1:
		return api.Value{Kind: api.Int, N: []int{0, 1, 7, -1, -42, api.MaxInt, -api.MaxInt}[m.below(7)]}
	case 2:
		return api.Value{Kind: api.Text, S: []string{"", "a", "it's", "''", "null", "TRUE", "(", "\n--", "é", "\x00\xff"}[m.below(10)]}
	}
	return api.Value{Kind: api.Bool, N: m.below(2)}
}

func (m *maker) exprs(n, deep int) []api.Expr {
	var l []api.Expr
	for range n {
		l = append(l, m.expr(deep))
	}
	return l
}

// expr makes one that is not deeper than that.
func (m *maker) expr(deep int) api.Expr {
	m.left--
	if deep == 1 || m.left <= 0 || m.below(4) == 0 {
		if m.below(2) == 0 {
			return api.Expr{Kind: api.ExLit, Val: m.value()}
		}
		return column(m.maybeName(), m.name())
	}
	down := m.below(2) == 0
	switch m.below(11) {
	case 0, 1:
		return unary([]int{api.DoNot, api.DoNeg, api.DoIsNull, api.DoNotNull}[m.below(4)], m.expr(deep-1))
	case 2, 3, 4, 5:
		return binary(m.expr(deep-1), api.DoOr+m.below(api.DoCat-api.DoOr+1), m.expr(deep-1))
	case 6:
		return m.call(deep - 1)
	case 7:
		return choice(m.exprs(3+2*m.below(3), deep-1)...)
	case 8:
		return other(api.ExIn, down, m.exprs(2+m.below(3), deep-1)...)
	case 9:
		if down {
			return other(api.ExLike, m.below(2) == 0, m.exprs(2, deep-1)...)
		}
		return other(api.ExBetween, m.below(2) == 0, m.exprs(3, deep-1)...)
	}
	switch m.below(3) {
	case 0:
		return over(api.ExSub, false, m.query(deep/2))
	case 1:
		return over(api.ExExists, false, m.query(deep/2))
	}
	return over(api.ExInSub, down, m.query(deep/2), m.exprs(1, deep-1)...)
}

func (m *maker) call(deep int) api.Expr {
	op := api.DoCountAll + m.below(api.DoGreatest-api.DoCountAll+1)
	switch op {
	case api.DoCountAll:
		return call(op)
	case api.DoSubstr:
		return call(op, m.exprs(3, deep)...)
	case api.DoNullif:
		return call(op, m.exprs(2, deep)...)
	case api.DoCoalesce, api.DoLeast, api.DoGreatest:
		return call(op, m.exprs(1+m.below(4), deep)...)
	}
	return call(op, m.exprs(1, deep)...)
}

// maybe makes a list of one, or none.
func (m *maker) maybe(deep int) []api.Expr { return m.exprs(m.below(3)/2, deep) }

func (m *maker) selectOne(deep int) api.Select {
	deep = max(deep, 1)
	s := api.Select{Distinct: m.below(4) == 0}
	for range 1 + m.below(3) {
		if m.below(4) == 0 {
			s.Items = append(s.Items, api.Item{Star: true})
		} else {
			s.Items = append(s.Items, api.Item{Expr: m.expr(deep), As: m.maybeName()})
		}
	}
	for k := range m.below(4) {
		f := api.Source{Table: m.name(), As: m.maybeName()}
		if k > 0 && m.below(3) > 0 {
			f.Left, f.On = m.below(2) == 0, m.exprs(1, deep)
		}
		s.From = append(s.From, f)
	}
	s.Where, s.Group, s.Having = m.maybe(deep), m.exprs(max(m.below(6)-3, 0), deep), m.maybe(deep)
	return s
}

func (m *maker) query(deep int) api.Query {
	q := api.Query{Limit: -1}
	for k := range 1 + m.below(6)/4 + m.below(6)/5 {
		s := m.selectOne(deep)
		if k > 0 {
			s.How = api.SetAll + m.below(4)
		}
		q.Selects = append(q.Selects, s)
	}
	for range max(m.below(6)-3, 0) {
		k := api.Key{Name: m.name(), Down: m.below(2) == 0}
		if m.below(2) == 0 {
			k.Name, k.Place = "", 1+m.below(20)
		}
		q.Order = append(q.Order, k)
	}
	if m.below(4) == 0 {
		q.Limit = m.below(3)
		q.Offset = m.below(3)
	}
	return q
}
