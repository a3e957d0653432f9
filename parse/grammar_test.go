package parse_test

import (
	"slices"
	"strings"

	"quayside/api"
)

// grammar is the chapter's, with lists as rules of their own. A part between < and > is gone over as often as it fits; ?( and )? stand around one that may be left out, ( and ) around others; | is or. Signs stand between quotes; int, text and name are kinds of tokens, place is an int from 1 on.
const grammar = `
query: select < ( UNION ?( ALL )? | INTERSECT | EXCEPT ) select > ?( ORDER BY keys )? ?( LIMIT int ?( OFFSET int )? )?
select: SELECT ?( DISTINCT )? items ?( FROM sources )? ?( WHERE expr )? ?( GROUP BY exprs )? ?( HAVING expr )?
items: item < ',' item >
sources: source < ',' source | ?( INNER | LEFT )? JOIN source ON expr >
keys: key < ',' key >
exprs: expr < ',' expr >
item: '*' | expr ?( AS name )?
source: name ?( ?( AS )? name )?
key: ( place | name ) ?( ASC | DESC )?
expr: and < OR and >
and: not < AND not >
not: NOT not | test
test: sum ?( ( '=' | '<>' | '<' | '<=' | '>' | '>=' ) sum | IS ?( NOT )? NULL | ?( NOT )? ( IN '(' list ')' | BETWEEN sum AND sum | LIKE sum ) )?
list: exprs | query
sum: product < ( '+' | '-' | '||' ) product >
product: minus < ( '*' | '/' | '%' ) minus >
minus: '-' ( int | minus ) | atom
atom: int | text | TRUE | FALSE | NULL | '(' ( expr | query ) ')' | case | EXISTS '(' query ')' | call | column
case: CASE when < when > ?( ELSE expr )? END
when: WHEN expr THEN expr
call: name '(' ?( '*' | exprs )? ')'
column: name ?( '.' name )?
`

// form is a part of the grammar: a token by its Text, or its kind; a rule; some of which one fits, or which stand one behind the other.
type form struct {
	how    string // of what kind: token, kind, rule, row, or, maybe, often
	text   string
	parts  []*form
	firsts map[string]bool // what it may begin with: signs and key words, and kinds of tokens
	empty  bool            // it may have no tokens
}

// readForm reads what stands up to one of some words, or the end.
func readForm(words []string, ends ...string) (*form, []string) {
	or, row := &form{how: "or"}, &form{how: "row"}
	for len(words) > 0 && !slices.Contains(ends, words[0]) {
		word := words[0]
		words = words[1:]
		var f *form
		switch {
		case word == "|":
			or.parts, row = append(or.parts, row), &form{how: "row"}
			continue
		case word == "(":
			f, words = readForm(words, ")")
			words = words[1:]
		case word == "?(":
			f, words = readForm(words, ")?")
			f, words = &form{how: "maybe", parts: []*form{f}}, words[1:]
		case word == "<":
			f, words = readForm(words, ">")
			f, words = &form{how: "often", parts: []*form{f}}, words[1:]
		case word[0] == '\'':
			f = &form{how: "token", text: strings.Trim(word, "'")}
		case strings.ToUpper(word) == word:
			f = &form{how: "token", text: word}
		case slices.Contains([]string{"int", "text", "name", "place"}, word):
			f = &form{how: "kind", text: word}
		default:
			f = &form{how: "rule", text: word}
		}
		row.parts = append(row.parts, f)
	}
	or.parts = append(or.parts, row)
	return or, words
}

// rules are the grammar's, by their names.
var rules = readRules()

func readRules() map[string]*form {
	all := map[string]*form{}
	for _, line := range strings.Split(strings.TrimSpace(grammar), "\n") {
		name, is, _ := strings.Cut(line, ": ")
		all[name], _ = readForm(strings.Fields(is))
	}
	return all
}

// learn finds out what a form may begin with, once that is asked.
func (f *form) learn() *form {
	if f.firsts != nil {
		return f
	}
	f.firsts = map[string]bool{}
	switch f.how {
	case "token", "kind":
		f.firsts[f.text] = true
	case "rule":
		f.firsts = rules[f.text].learn().firsts
		if f.text == "call" {
			f.firsts = map[string]bool{"call": true}
		}
	case "row":
		f.empty = true
		for k := 0; k < len(f.parts) && f.empty; k++ {
			f.empty = f.firstsOf(f.parts[k]).empty
		}
	default:
		f.empty = f.how != "or"
		for _, part := range f.parts {
			f.firstsOf(part)
		}
	}
	return f
}

func (f *form) firstsOf(part *form) *form {
	for first := range part.learn().firsts {
		f.firsts[first] = true
	}
	return part
}

// node is what was read by a rule: tokens, and what was read by other rules.
type node struct {
	rule  string // of a token: none
	token api.Token
	parts []*node
	deep  int // of an expression: how deep it is
}

// walker goes over tokens by the grammar, one rule after the other.
type walker struct {
	tokens []api.Token
	within int
}

// told is what is wrong, and where.
type told struct {
	at  int
	err api.Errno
}

func (w *walker) wrong() { panic(told{w.tokens[0].At, api.ErrParse}) }

// next tells whether the next token is of a kind, or that sign or key word.
func (w *walker) next(as string) bool {
	t := w.tokens[0]
	switch t.Kind {
	case api.TokKey, api.TokSign:
		return t.Text == as
	case api.TokInt:
		return as == "int" || as == "place" && t.N > 0
	case api.TokText:
		return as == "text"
	case api.TokWord:
		behind := w.tokens[1]
		return as == "name" || as == "call" && behind.Kind == api.TokSign && behind.Text == "("
	}
	return false
}

// starts tells whether a form may begin with the next token.
func (w *walker) starts(f *form) bool {
	for first := range f.learn().firsts {
		if w.next(first) {
			return true
		}
	}
	return false
}

// walk goes over what a form is, and puts it to the node.
func (w *walker) walk(f *form, n *node) {
	is := w.starts(f)
	switch {
	case !is && !f.empty:
		w.wrong()
	case f.how == "token" || f.how == "kind":
		n.parts = append(n.parts, &node{token: w.tokens[0]})
		w.tokens = w.tokens[1:]
	case f.how == "rule":
		w.enter(f.text, n)
	case f.how == "row":
		for _, part := range f.parts {
			w.walk(part, n)
		}
	case f.how == "or":
		w.walk(f.parts[slices.IndexFunc(f.parts, w.starts)], n)
	case f.how == "maybe" && is:
		w.walk(f.parts[0], n)
	case f.how == "often":
		for w.starts(f) {
			w.walk(f.parts[0], n)
		}
	}
}

// limits are how many of a rule there may be in one of another rule.
var limits = map[string]int{"query select": 8, "items item": 16, "sources source": 6, "keys key": 16, "exprs expr": 16, "case when": 16}

// counts tells whether what a rule reads counts as one within others.
func (w *walker) counts(rule string) bool {
	switch rule {
	case "expr", "query":
		return true
	case "not":
		return w.next("NOT")
	case "minus":
		return w.next("-") && w.tokens[1].Kind != api.TokInt
	}
	return false
}

// strange tells whether what a rule reads begins with a function that there is not.
func (w *walker) strange(rule string) bool {
	if !w.next("call") || !slices.Contains([]string{"item", "expr", "call"}, rule) {
		return false
	}
	name := plainUpper(w.tokens[0].Text)
	return !slices.ContainsFunc(called, func(f calledFunction) bool { return f.name == name })
}

func plainUpper(s string) string {
	l := []byte(s)
	for k, b := range l {
		if b >= 'a' && b <= 'z' {
			l[k] = b - 32
		}
	}
	return string(l)
}

// enter goes over what a rule reads, which begins with the next token.
func (w *walker) enter(rule string, into *node) {
	if w.strange(rule) {
		w.wrong()
	}
	if most, is := limits[into.rule+" "+rule]; is && len(under(into, rule)) == most {
		panic(told{w.tokens[0].At, api.ErrFull})
	}
	counts := w.counts(rule)
	if counts {
		w.within++
	}
	if w.within > 32 {
		panic(told{w.tokens[0].At, api.ErrDeep})
	}
	n := &node{rule: rule}
	w.walk(rules[rule], n)
	if counts {
		w.within--
	}
	if rule == "call" && !takes(n) {
		panic(told{begins(n), api.ErrParse})
	}
	measure(n)
	into.parts = append(into.parts, n)
	if chains(into.rule) {
		measure(into)
	}
}

// takes tells whether a call has as many arguments as its function takes.
func takes(n *node) bool {
	name := plainUpper(n.parts[0].token.Text)
	args := len(under(n, "exprs", "expr"))
	if n.parts[2].token.Text == "*" {
		return name == "COUNT"
	}
	return slices.ContainsFunc(called, func(f calledFunction) bool { return f.name == name && f.least <= args && args <= f.most })
}

// under are what some rules have read, each within the one ahead.
func under(n *node, rules ...string) []*node {
	l := []*node{n}
	for _, rule := range rules {
		var next []*node
		for _, x := range l {
			for _, part := range x.parts {
				if part.rule == rule {
					next = append(next, part)
				}
			}
		}
		l = next
	}
	return l
}

// begins is where the first token is that is no bracket.
func begins(n *node) int {
	if n.rule == "" {
		return n.token.At
	}
	first := n.parts[0]
	if first.rule == "" && first.token.Kind == api.TokSign && first.token.Text == "(" {
		first = n.parts[1]
	}
	return begins(first)
}

// chains tells whether a rule's expression is nested to the left, so that each beginning of it is one.
func chains(rule string) bool {
	return slices.Contains([]string{"expr", "and", "sum", "product"}, rule)
}

// measure finds out how deep what was read is; no expression may be too deep.
func measure(n *node) {
	most := 0
	for _, part := range n.parts {
		most = max(most, part.deep)
	}
	switch n.rule {
	case "expr", "and", "sum", "product":
		n.deep = n.parts[0].deep
		for k := 2; k < len(n.parts); k += 2 {
			n.deep = max(n.deep, n.parts[k].deep) + 1
		}
	case "not", "minus", "test":
		n.deep = most
		if len(n.parts) > 1 {
			n.deep = most + 1
		}
	case "atom":
		n.deep = max(most, 1)
	case "call", "case":
		n.deep = most + 1
	case "list", "exprs", "when":
		n.deep = most
		return
	}
	if n.deep > 32 {
		panic(told{begins(n), api.ErrDeep})
	}
}
