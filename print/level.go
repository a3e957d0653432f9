package print

import "quayside/api"

// How strong expressions bind.
const (
	orLevel = 1 + iota
	andLevel
	notLevel
	testLevel
	sumLevel
	productLevel
	minusLevel
	atomLevel
)

// level is how strong an expression binds.
func level(e api.Expr) int {
	switch e.Kind {
	case api.ExUnary:
		return unaryLevel(e.Op)
	case api.ExBinary:
		_, strong := between(e.Op)
		return strong
	case api.ExIn, api.ExInSub, api.ExBetween, api.ExLike:
		return testLevel
	}
	return atomLevel
}

func unaryLevel(op int) int {
	switch op {
	case api.DoNot:
		return notLevel
	case api.DoNeg:
		return minusLevel
	case api.DoIsNull, api.DoNotNull:
		return testLevel
	}
	return atomLevel
}

// between is what stands between two of which that is done, and how strong it binds them.
func between(op int) (word string, strong int) {
	switch op {
	case api.DoOr:
		return "OR", orLevel
	case api.DoAnd:
		return "AND", andLevel
	case api.DoEq:
		return "=", testLevel
	case api.DoNe:
		return "<>", testLevel
	case api.DoLt:
		return "<", testLevel
	case api.DoLe:
		return "<=", testLevel
	case api.DoGt:
		return ">", testLevel
	case api.DoGe:
		return ">=", testLevel
	case api.DoAdd:
		return "+", sumLevel
	case api.DoSub:
		return "-", sumLevel
	case api.DoCat:
		return "||", sumLevel
	case api.DoMul:
		return "*", productLevel
	case api.DoDiv:
		return "/", productLevel
	case api.DoMod:
		return "%", productLevel
	}
	return "", atomLevel
}
