package check

import (
	"slices"

	"quayside/api"
)

// what is what an expression is, of what its arguments are; false: they are not as they must be.
func what(e *api.Expr, are []api.Column) (api.Column, bool) {
	if !fits(e) {
		return api.Column{}, false
	}
	switch e.Kind {
	case api.ExLit:
		kind := e.Val.Kind
		return api.Column{Kind: kind, Null: kind == api.Null}, kind >= api.Null && kind <= api.Bool
	case api.ExCol, api.ExSub:
		return alike(are)
	case api.ExIn, api.ExInSub, api.ExBetween:
		return compared(are)
	case api.ExLike:
		return of(api.Bool, are, api.Text)
	case api.ExCase:
		return choice(are)
	case api.ExExists:
		return api.Column{Kind: api.Bool}, true
	}
	return done(e.Op, are)
}

// done is what comes of doing something to arguments.
func done(op int, are []api.Column) (api.Column, bool) {
	switch op {
	case api.DoNot, api.DoOr, api.DoAnd:
		return of(api.Bool, are, api.Bool)
	case api.DoIsNull, api.DoNotNull:
		return api.Column{Kind: api.Bool}, true
	case api.DoEq, api.DoNe, api.DoLt, api.DoLe, api.DoGt, api.DoGe:
		return compared(are)
	case api.DoNeg, api.DoAdd, api.DoSub, api.DoMul, api.DoDiv, api.DoMod, api.DoAbs:
		return of(api.Int, are, api.Int)
	case api.DoCat, api.DoUpper, api.DoLower:
		return of(api.Text, are, api.Text)
	case api.DoLength:
		return of(api.Int, are, api.Text)
	case api.DoSubstr:
		return of(api.Text, are, api.Text, api.Int, api.Int)
	case api.DoCountAll, api.DoCount:
		return api.Column{Kind: api.Int}, true
	case api.DoSum:
		return orNull(of(api.Int, are, api.Int))
	case api.DoMin, api.DoMax, api.DoNullif:
		return orNull(alike(are))
	case api.DoCoalesce:
		return first(are)
	}
	return alike(are)
}

// of is a kind of value, of arguments that must be of these kinds, the others of the last of these.
func of(kind int, are []api.Column, must ...int) (api.Column, bool) {
	for k, c := range are {
		if _, ok := agree(c, api.Column{Kind: must[min(k, len(must)-1)]}); !ok {
			return api.Column{}, false
		}
	}
	return api.Column{Kind: kind, Null: slices.ContainsFunc(are, mayBeNull)}, true
}

// compared is a truth, of arguments that agree.
func compared(are []api.Column) (api.Column, bool) {
	c, ok := alike(are)
	return api.Column{Kind: api.Bool, Null: c.Null}, ok
}

// alike is what one of arguments is, that agree.
func alike(are []api.Column) (api.Column, bool) {
	kind, ok := agree(are...)
	return api.Column{Kind: kind, Null: slices.ContainsFunc(are, mayBeNull)}, ok
}

// first is what the first of arguments is that is no null.
func first(are []api.Column) (api.Column, bool) {
	kind, ok := agree(are...)
	known := func(c api.Column) bool { return !mayBeNull(c) }
	return api.Column{Kind: kind, Null: !slices.ContainsFunc(are, known)}, ok
}

// choice is what one of values is, between which conditions stand ahead of each but the last one.
func choice(are []api.Column) (api.Column, bool) {
	var conditions, values []api.Column
	for k, c := range are {
		if k%2 == 0 && k < len(are)-1 {
			conditions = append(conditions, c)
		} else {
			values = append(values, c)
		}
	}
	_, ok := of(api.Bool, conditions, api.Bool)
	c, agree := alike(values)
	return c, ok && agree
}

func mayBeNull(c api.Column) bool { return c.Null }

func orNull(c api.Column, ok bool) (api.Column, bool) {
	c.Null = true
	return c, ok
}

// agree is the kind of all of these; false: they do not agree.
func agree(columns ...api.Column) (int, bool) {
	kind, ok := api.Null, true
	for _, c := range columns {
		switch {
		case kind == api.Null:
			kind = c.Kind
		case c.Kind != api.Null && c.Kind != kind:
			ok = false
		}
	}
	return kind, ok
}
