package parse_test

import (
	"slices"
	"strings"

	"quayside/api"
	"quayside/lex"
)

// plain is what a text is by the grammar, from a rule on; where it is wrong, if it is.
func plain(s, rule string) (n *node, at int, err api.Errno) {
	tokens, at, err := lex.Tokens(s)
	if err != api.OK {
		return nil, at, err
	}
	defer func() {
		if r := recover(); r != nil {
			n, at, err = nil, r.(told).at, r.(told).err
		}
	}()
	w := &walker{tokens: tokens}
	top := &node{}
	w.enter(rule, top)
	if w.tokens[0].Kind != api.TokEnd {
		w.wrong()
	}
	return top.parts[0], 0, api.OK
}

func plainQuery(s string) (api.Query, int, api.Errno) {
	n, at, err := plain(s, "query")
	if err != api.OK {
		return api.Query{}, at, err
	}
	return buildQuery(n), 0, api.OK
}

func plainExpr(s string) (api.Expr, int, api.Errno) {
	n, at, err := plain(s, "expr")
	if err != api.OK {
		return api.Expr{}, at, err
	}
	return buildExpr(n), 0, api.OK
}

// has is where a token stands among the parts, from 1 on; 0: it does not.
func has(n *node, text string) int {
	return 1 + slices.IndexFunc(n.parts, func(part *node) bool {
		return part.rule == "" && part.token.Text == text && (part.token.Kind == api.TokKey || part.token.Kind == api.TokSign)
	})
}

func buildQuery(n *node) api.Query {
	q := api.Query{Limit: -1}
	for k, part := range n.parts {
		if part.rule == "select" {
			s := buildSelect(part)
			if k > 0 {
				s.How = map[string]int{"UNION": api.SetUnion, "ALL": api.SetAll, "INTERSECT": api.SetIntersect, "EXCEPT": api.SetExcept}[n.parts[k-1].token.Text]
			}
			q.Selects = append(q.Selects, s)
		}
	}
	for _, key := range under(n, "keys", "key") {
		first := key.parts[0].token
		q.Order = append(q.Order, api.Key{Place: first.N, Name: first.Text, Down: has(key, "DESC") > 0, At: first.At})
	}
	if k := has(n, "LIMIT"); k > 0 {
		q.Limit = n.parts[k].token.N
	}
	if k := has(n, "OFFSET"); k > 0 {
		q.Offset = n.parts[k].token.N
	}
	return q
}

func buildSelect(n *node) api.Select {
	s := api.Select{Distinct: has(n, "DISTINCT") > 0}
	for _, item := range under(n, "items", "item") {
		i := api.Item{Star: has(item, "*") > 0}
		if !i.Star {
			i.Expr = buildExpr(item.parts[0])
		}
		if len(item.parts) > 1 {
			i.As = item.parts[2].token.Text
		}
		s.Items = append(s.Items, i)
	}
	for _, sources := range under(n, "sources") {
		s.From = buildSources(sources)
	}
	for _, group := range under(n, "exprs", "expr") {
		s.Group = append(s.Group, buildExpr(group))
	}
	if k := has(n, "WHERE"); k > 0 {
		s.Where = []api.Expr{buildExpr(n.parts[k])}
	}
	if k := has(n, "HAVING"); k > 0 {
		s.Having = []api.Expr{buildExpr(n.parts[k])}
	}
	return s
}

func buildSources(n *node) []api.Source {
	var l []api.Source
	for k, part := range n.parts {
		switch part.rule {
		case "source":
			first := part.parts[0].token
			f := api.Source{Table: first.Text, At: first.At, Left: k > 1 && n.parts[k-2].rule == "" && n.parts[k-2].token.Text == "LEFT"}
			if len(part.parts) > 1 {
				f.As = part.parts[len(part.parts)-1].token.Text
			}
			l = append(l, f)
		case "expr":
			l[len(l)-1].On = []api.Expr{buildExpr(part)}
		}
	}
	return l
}

// signs are what keys and signs do to two.
var signOps = map[string]int{
	"OR": api.DoOr, "AND": api.DoAnd, "=": api.DoEq, "<>": api.DoNe, "<": api.DoLt, "<=": api.DoLe, ">": api.DoGt, ">=": api.DoGe,
	"+": api.DoAdd, "-": api.DoSub, "||": api.DoCat, "*": api.DoMul, "/": api.DoDiv, "%": api.DoMod,
}

// buildExpr is the expression that was read by a rule.
func buildExpr(n *node) api.Expr {
	e := api.Expr{At: begins(n)}
	first, last := n.parts[0], n.parts[len(n.parts)-1]
	switch n.rule {
	case "expr", "and", "sum", "product":
		e = buildExpr(first)
		for k := 2; k < len(n.parts); k += 2 {
			e = api.Expr{Kind: api.ExBinary, Op: signOps[n.parts[k-1].token.Text], At: begins(n), Args: []api.Expr{e, buildExpr(n.parts[k])}}
		}
	case "not", "minus":
		switch {
		case first.rule != "":
			return buildExpr(first)
		case last.rule == "":
			e.Kind, e.Val = api.ExLit, api.Value{Kind: api.Int, N: -last.token.N}
		default:
			e.Kind, e.Op, e.Args = api.ExUnary, map[string]int{"not": api.DoNot, "minus": api.DoNeg}[n.rule], []api.Expr{buildExpr(last)}
		}
	case "test":
		return buildTest(n)
	case "atom":
		return buildAtom(n)
	}
	return e
}

func buildTest(n *node) api.Expr {
	e := api.Expr{At: begins(n), Down: has(n, "NOT") > 0 && has(n, "IS") == 0}
	for _, sum := range under(n, "sum") {
		e.Args = append(e.Args, buildExpr(sum))
	}
	for _, list := range under(n, "list") {
		for _, x := range under(list, "exprs", "expr") {
			e.Args = append(e.Args, buildExpr(x))
		}
		for _, q := range under(list, "query") {
			e.Sub = append(e.Sub, buildQuery(q))
		}
	}
	switch {
	case len(n.parts) == 1:
		return e.Args[0]
	case has(n, "IS") > 0:
		e.Kind, e.Op = api.ExUnary, api.DoIsNull+has(n, "NOT")/3
	case has(n, "BETWEEN") > 0:
		e.Kind = api.ExBetween
	case has(n, "LIKE") > 0:
		e.Kind = api.ExLike
	case len(e.Sub) > 0:
		e.Kind = api.ExInSub
	case has(n, "IN") > 0:
		e.Kind = api.ExIn
	default:
		e.Kind, e.Op = api.ExBinary, signOps[n.parts[1].token.Text]
	}
	return e
}

func buildAtom(n *node) api.Expr {
	e := api.Expr{Kind: api.ExLit, At: begins(n)}
	first := n.parts[0]
	if first.rule != "" {
		return buildNamed(first)
	}
	for _, x := range under(n, "expr") {
		return buildExpr(x)
	}
	for _, q := range under(n, "query") {
		e.Kind, e.Sub = api.ExSub, []api.Query{buildQuery(q)}
		if has(n, "EXISTS") > 0 {
			e.Kind = api.ExExists
		}
		return e
	}
	e.Val = map[int]api.Value{
		api.TokInt:  {Kind: api.Int, N: first.token.N},
		api.TokText: {Kind: api.Text, S: first.token.Text},
		api.TokKey:  map[string]api.Value{"TRUE": {Kind: api.Bool, N: 1}, "FALSE": {Kind: api.Bool}, "NULL": {}}[first.token.Text],
	}[first.token.Kind]
	return e
}

// buildNamed is a case, a function, or a column.
func buildNamed(n *node) api.Expr {
	e := api.Expr{At: begins(n)}
	var args []*node
	switch n.rule {
	case "case":
		e.Kind = api.ExCase
		args = append(under(n, "when", "expr"), under(n, "expr")...)
	case "call":
		k := slices.IndexFunc(called, func(f calledFunction) bool { return f.name == plainUpper(n.parts[0].token.Text) })
		e.Op = called[k].op
		if has(n, "*") > 0 {
			e.Op = api.DoCountAll
		}
		e.Kind = opKind(e.Op)
		args = under(n, "exprs", "expr")
	default:
		e.Kind = api.ExCol
		for _, part := range n.parts {
			if part.token.Kind == api.TokWord {
				e.Table, e.Name = e.Name, part.token.Text
			}
		}
	}
	for _, x := range args {
		e.Args = append(e.Args, buildExpr(x))
	}
	if n.rule == "case" && has(n, "ELSE") == 0 {
		e.Args = append(e.Args, api.Expr{Kind: api.ExLit})
	}
	return e
}

// dice are numbers that look like any, the same ones each time.
type dice uint64

func (x *dice) below(n int) int {
	*x ^= *x << 13
	*x ^= *x >> 7
	*x ^= *x << 17
	return int(uint64(*x) >> 20 % uint64(n))
}

func (x *dice) of(l []string) string { return l[x.below(len(l))] }

// maker makes texts by the grammar.
type maker struct {
	*dice
	left  int    // about how many tokens there may be yet
	often int    // how many there are at most of what may stand often
	wide  bool   // lists that have a limit are about as long as that
	rule  string // of which tokens are put
	words []string
}

// make puts tokens of a form. Once there are enough, it takes the shortest way.
func (m *maker) make(f *form) {
	short := m.left <= 0
	switch f.how {
	case "token", "kind":
		m.left--
		m.words = append(m.words, m.token(f))
	case "rule":
		was := m.rule
		m.rule = f.text
		m.makeRule(f.text, short)
		m.rule = was
	case "row":
		for _, part := range f.parts {
			m.make(part)
		}
	case "or":
		if short {
			m.make(f.parts[0])
		} else {
			m.make(f.parts[m.below(len(f.parts))])
		}
	case "maybe":
		if !short && m.below(2) == 0 {
			m.make(f.parts[0])
		}
	case "often":
		m.makeOften(f.parts[0])
	}
}

// makeOften puts tokens of what may stand often.
func (m *maker) makeOften(f *form) {
	if most, is := map[string]int{"query": 8, "items": 16, "sources": 6, "keys": 16, "exprs": 16, "case": 16}[m.rule]; is && m.wide && m.below(3) == 0 {
		for range most - 2 + m.below(3) {
			m.make(f)
		}
		return
	}
	for k := 0; k < m.often && m.left > 0 && m.below(m.often+1) > 0; k++ {
		m.make(f)
	}
}

// makeRule puts tokens of a rule: those that lead to one expression alone are few, else texts would be all of them.
func (m *maker) makeRule(rule string, short bool) {
	switch {
	case short && (rule == "not" || rule == "minus"):
		m.make(rules[rule].parts[len(rules[rule].parts)-1])
	case rule == "call" && m.below(8) > 0:
		f := called[m.below(len(called))]
		n := f.least + m.below(min(f.most, 4)-min(f.least, 4)+1)
		m.words = append(m.words, m.mixed(f.name), "(")
		for k := range n {
			if k > 0 {
				m.words = append(m.words, ",")
			}
			m.make(&form{how: "rule", text: "expr"})
		}
		m.words = append(m.words, ")")
	default:
		m.make(rules[rule])
	}
}

// mixed is a text with some of its letters small.
func (x *dice) mixed(s string) string {
	if x.below(3) == 0 {
		return strings.ToLower(s)
	}
	return s
}

// token is one as text.
func (m *maker) token(f *form) string {
	switch f.text {
	case "int":
		return m.of([]string{"0", "1", "7", "16", "9223372036854775807"})
	case "place":
		return m.of([]string{"1", "2", "9223372036854775807"})
	case "text":
		return m.of([]string{"''", "'a'", "'it''s'", "'('", "'NOT'"})
	case "name":
		return m.of([]string{"a", "b", "t", "sum", "Count", `"NOT"`, `"a b"`, `"("`, "_1", "f"})
	case "<>":
		return m.of([]string{"<>", "!="})
	}
	return m.mixed(f.text)
}

// between are what may stand between tokens.
var between = []string{" ", "  ", "\n", "\t", "/**/", " -- x\n", " /* ( */ "}

// text is one of the tokens that were put.
func (m *maker) text() string {
	s := ""
	for k, word := range m.words {
		if k > 0 || m.below(4) == 0 {
			s += m.of(between)
		}
		s += word
	}
	if m.below(4) == 0 {
		s += m.of(between)
	}
	return s
}

// others are tokens that are put in place of right ones.
var others = strings.Fields(`a f sum( f( ABS() ! 007 COUNT(*) 0 1 'x' "y" ( ) , . * + - / % || = <> < >= AND OR NOT IN IS NULL TRUE LIKE BETWEEN CASE WHEN THEN ELSE END EXISTS SELECT FROM WHERE GROUP BY HAVING ORDER LIMIT OFFSET UNION ALL EXCEPT JOIN LEFT INNER ON AS DISTINCT ASC DESC`)

// spoil makes a few of the tokens others.
func (m *maker) spoil() {
	for range 1 + m.below(2) {
		if len(m.words) == 0 {
			return
		}
		k := m.below(len(m.words))
		switch m.below(5) {
		case 0:
			m.words = slices.Delete(m.words, k, k+1)
		case 1:
			m.words = slices.Insert(m.words, k, m.of(others))
		case 2:
			m.words[k] = m.of(others)
		case 3:
			i := m.below(len(m.words))
			m.words[k], m.words[i] = m.words[i], m.words[k]
		case 4:
			m.words = m.words[:k]
		}
	}
}
