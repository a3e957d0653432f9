package check

import "quayside/api"

// fits is whether an expression has what its kind must have, whatever its arguments are.
func fits(e *api.Expr) bool {
	n := len(e.Args)
	switch e.Kind {
	case api.ExLit, api.ExCol:
		return n == 0 && len(e.Sub) == 0
	case api.ExSub, api.ExExists:
		return n == 0 && len(e.Sub) == 1
	case api.ExInSub:
		return n == 1 && len(e.Sub) == 1
	case api.ExUnary, api.ExBinary, api.ExAgg, api.ExCall:
		return len(e.Sub) == 0 && takes(e.Kind, e.Op, n)
	case api.ExCase:
		return n > 2 && n%2 == 1 && len(e.Sub) == 0
	case api.ExIn:
		return n > 1 && len(e.Sub) == 0
	case api.ExBetween:
		return n == 3 && len(e.Sub) == 0
	case api.ExLike:
		return n == 2 && len(e.Sub) == 0
	}
	return false
}

// takes is whether that is done by an expression of a kind, to as many arguments.
func takes(kind, op, n int) bool {
	switch {
	case op >= api.DoNot && op <= api.DoNotNull:
		return kind == api.ExUnary && n == 1
	case op >= api.DoOr && op <= api.DoCat:
		return kind == api.ExBinary && n == 2
	case op == api.DoCountAll:
		return kind == api.ExAgg && n == 0
	case op >= api.DoCount && op <= api.DoMax:
		return kind == api.ExAgg && n == 1
	case op >= api.DoAbs && op <= api.DoLower:
		return kind == api.ExCall && n == 1
	case op == api.DoSubstr:
		return kind == api.ExCall && n == 3
	case op == api.DoNullif:
		return kind == api.ExCall && n == 2
	case op == api.DoCoalesce, op == api.DoLeast, op == api.DoGreatest:
		return kind == api.ExCall && n > 0
	}
	return false
}
