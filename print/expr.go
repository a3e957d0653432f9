package print

import (
	"strings"

	"quayside/api"
	"quayside/value"
)

// expr puts an expression where one must bind so strong: between brackets, if it does not.
func (w *writer) expr(e api.Expr, strong int) {
	if w.deep == mostDeep || w.full() {
		return
	}
	w.deep++
	if level(e) < strong {
		w.put("(")
		w.bare(e)
		w.put(")")
	} else {
		w.bare(e)
	}
	w.deep--
}

// bare puts an expression without brackets around it.
func (w *writer) bare(e api.Expr) {
	switch e.Kind {
	case api.ExLit:
		w.put(literal(e.Val))
	case api.ExCol:
		if e.Table != "" {
			w.put(name(e.Table), ".")
		}
		w.put(name(e.Name))
	case api.ExUnary:
		w.unary(e)
	case api.ExBinary:
		w.binary(e)
	case api.ExAgg, api.ExCall:
		w.call(e)
	case api.ExCase:
		w.choice(e.Args)
	case api.ExIn, api.ExInSub, api.ExBetween, api.ExLike:
		w.test(e)
	case api.ExSub:
		w.sub(e.Sub)
	case api.ExExists:
		w.put("EXISTS ")
		w.sub(e.Sub)
	}
}

func literal(v api.Value) string {
	s := value.Show(v)
	switch s {
	case "null", "true", "false":
		return strings.ToUpper(s)
	}
	return s
}

// arg puts the argument at a place, if there is one.
func (w *writer) arg(e api.Expr, k, strong int) {
	if k < len(e.Args) {
		w.expr(e.Args[k], strong)
	}
}

func (w *writer) exprs(l []api.Expr) {
	w.list(len(l), ", ", func(k int) { w.expr(l[k], orLevel) })
}

func (w *writer) unary(e api.Expr) {
	switch e.Op {
	case api.DoNot:
		w.put("NOT ")
		w.arg(e, 0, notLevel)
	case api.DoNeg:
		w.negative(e)
	case api.DoIsNull:
		w.arg(e, 0, sumLevel)
		w.put(" IS NULL")
	case api.DoNotNull:
		w.arg(e, 0, sumLevel)
		w.put(" IS NOT NULL")
	}
}

// negative puts a minus and its argument: a number needs brackets, for without them the minus would be its sign.
func (w *writer) negative(e api.Expr) {
	w.put("- ")
	if len(e.Args) > 0 && e.Args[0].Kind == api.ExLit && e.Args[0].Val.Kind == api.Int && e.Args[0].Val.N >= 0 {
		w.put("(", literal(e.Args[0].Val), ")")
		return
	}
	w.arg(e, 0, minusLevel)
}

func (w *writer) binary(e api.Expr) {
	word, strong := between(e.Op)
	first := strong
	if strong == testLevel {
		first = sumLevel
	}
	w.arg(e, 0, first)
	w.put(" ", word, " ")
	w.arg(e, 1, strong+1)
}

// test puts what may stand behind NOT.
func (w *writer) test(e api.Expr) {
	w.arg(e, 0, sumLevel)
	if e.Down {
		w.put(" NOT")
	}
	switch e.Kind {
	case api.ExLike:
		w.put(" LIKE ")
		w.arg(e, 1, sumLevel)
	case api.ExBetween:
		w.put(" BETWEEN ")
		w.arg(e, 1, sumLevel)
		w.put(" AND ")
		w.arg(e, 2, sumLevel)
	case api.ExInSub:
		w.put(" IN ")
		w.sub(e.Sub)
	case api.ExIn:
		w.put(" IN (")
		w.exprs(e.Args[min(1, len(e.Args)):])
		w.put(")")
	}
}

// sub puts a sub-query.
func (w *writer) sub(l []api.Query) {
	w.put("(")
	if len(l) > 0 {
		w.query(l[0])
	}
	w.put(")")
}

func (w *writer) call(e api.Expr) {
	w.put(Function(e.Op), "(")
	if e.Op == api.DoCountAll {
		w.put("*")
	} else {
		w.exprs(e.Args)
	}
	w.put(")")
}

// choice puts conditions and values, and the last one, which is that of no condition.
func (w *writer) choice(args []api.Expr) {
	w.put("CASE")
	w.list(len(args)/2, "", func(k int) {
		w.put(" WHEN ")
		w.expr(args[2*k], orLevel)
		w.put(" THEN ")
		w.expr(args[2*k+1], orLevel)
	})
	if len(args)%2 == 1 {
		w.put(" ELSE ")
		w.expr(args[len(args)-1], orLevel)
	}
	w.put(" END")
}
