package parse

import "quayside/api"

// parser goes over tokens, and gives up with a fault where they are wrong.
type parser struct {
	tokens []api.Token // those ahead, at last the end
	within int         // how many queries, expressions, NOTs and minuses are begun that are not ended yet
	bar    api.Errno   // why what the next token begins may not be
}

// fault is what is wrong, and where.
type fault struct {
	at  int
	err api.Errno
}

func (p *parser) next() api.Token { return p.tokens[0] }

// refuse gives up at a token that may not stand there.
func (p *parser) refuse() { panic(fault{p.next().At, api.ErrParse}) }

// barNext is told of what would be one too many, ahead of its first token: only once that is taken did it begin, else the token may not stand there. What was told first stays, for a list's limit is told ahead of the depth.
func (p *parser) barNext(err api.Errno) {
	if p.bar == api.OK {
		p.bar = err
	}
}

// enter is told ahead of the first token of what counts as one more within another one.
func (p *parser) enter() {
	p.within++
	if p.within > api.MaxDepth {
		p.barNext(api.ErrDeep)
	}
}

func (p *parser) leave() { p.within-- }

// take goes over the next token, which must be one that may stand there.
func (p *parser) take() api.Token {
	t := p.next()
	if p.bar != api.OK {
		panic(fault{t.At, p.bar})
	}
	p.tokens = p.tokens[1:]
	return t
}

// takeKind goes over a token of that kind, which must be there.
func (p *parser) takeKind(kind int) api.Token {
	if p.next().Kind != kind {
		p.refuse()
	}
	return p.take()
}

// is tells whether a token is that key word, or that sign.
func is(t api.Token, as string) bool {
	return (t.Kind == api.TokKey || t.Kind == api.TokSign) && t.Text == as
}

func (p *parser) sees(as string) bool { return is(p.next(), as) }

// skip goes over a key word or a sign, if it is there.
func (p *parser) skip(as string) bool {
	if !p.sees(as) {
		return false
	}
	p.take()
	return true
}

// need goes over a key word or a sign, which must be there.
func (p *parser) need(as string) {
	if !p.skip(as) {
		p.refuse()
	}
}

func (p *parser) comma() bool { return p.skip(",") }

// list reads one, and another one as long as there are more, of which there may be at most so many.
func list[T any](p *parser, most int, one func() T, more func() bool) []T {
	l := []T{one()}
	for more() {
		if len(l) == most {
			p.barNext(api.ErrFull)
		}
		l = append(l, one())
	}
	return l
}
