package parse

import "quayside/api"

const mostDeep = 1000

// Deep is how deep an expression is: 1 of one without arguments, at most 1000.
func Deep(e api.Expr) int { return depths{}.of(&e, 1) }

// depths are those of expressions with arguments that were gone over, so that each is gone over once, however many it is an argument of.
type depths map[*api.Expr]int

// of is how deep an expression is that is the last one of so many within one another.
func (d depths) of(e *api.Expr, within int) int {
	if len(e.Args) == 0 {
		return 1
	}
	if deep, is := d[e]; is {
		return deep
	}
	// What is met again within itself has no end, and with the last one that counts the first one is as deep as may be, whatever is in it.
	d[e] = mostDeep
	if within == mostDeep {
		return mostDeep
	}
	deep := 0
	for k := range e.Args {
		deep = max(deep, d.of(&e.Args[k], within+1))
	}
	d[e] = min(deep+1, mostDeep)
	return d[e]
}
