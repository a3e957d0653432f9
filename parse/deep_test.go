package parse_test

import (
	"testing"

	"quayside/api"
	"quayside/parse"
)

// isDeep tells that an expression is so deep.
func isDeep(t *testing.T, what string, e api.Expr, want int) {
	t.Helper()
	if n := parse.Deep(e); n != want {
		t.Errorf("%s is %d deep, want %d", what, n, want)
	}
}

// nested is an expression that is so deep, of a kind.
func nested(deep, kind int) api.Expr {
	e := api.Expr{Kind: kind}
	for range deep - 1 {
		e = api.Expr{Kind: kind, Args: []api.Expr{e}}
	}
	return e
}

// TestPa2Alone: without arguments an expression counts as one, whatever it is.
func TestPa2Alone(t *testing.T) {
	isDeep(t, "none", api.Expr{}, 1)
	for kind := -1; kind <= api.ExExists+1; kind++ {
		isDeep(t, put("of kind %d", kind), api.Expr{Kind: kind}, 1)
		isDeep(t, put("of kind %d, without arguments", kind), api.Expr{Kind: kind, Args: []api.Expr{}}, 1)
		isDeep(t, put("of kind %d, of an empty list with room", kind), api.Expr{Kind: kind, Args: make([]api.Expr, 0, 5)}, 1)
		isDeep(t, put("of kind %d with all else", kind), api.Expr{Kind: kind, Op: 99, Val: api.Value{Kind: 9, N: 9, S: "9"}, Table: "t", Name: "n", Col: 9, Down: true, At: -9}, 1)
	}
}

// TestPa2Args: one more than the deepest argument, wherever that is among them.
func TestPa2Args(t *testing.T) {
	for kind := range api.ExExists + 1 {
		for _, n := range []int{1, 2, 3, 32, 33, 100, 999} {
			isDeep(t, put("%d of kind %d", n, kind), nested(n, kind), n)
		}
	}
	for size := range 8 {
		for k := range size {
			args := make([]api.Expr, size)
			for i := range args {
				args[i] = nested(1+(i*7+k)%3, api.ExCall)
			}
			args[k] = nested(5, api.ExUnary)
			isDeep(t, put("the %dth of %d", k, size), api.Expr{Kind: api.ExCase, Args: args}, 6)
			isDeep(t, put("up to the %dth of %d", k, size), api.Expr{Kind: api.ExCase, Args: args[:k+1]}, 6)
			if k > 0 {
				isDeep(t, put("ahead of the %dth of %d", k, size), api.Expr{Kind: api.ExCase, Args: args[:1]}, 2+k%3)
			}
		}
	}
	wide := make([]api.Expr, 10000)
	isDeep(t, "a wide one", api.Expr{Args: wide}, 2)
	wide[9999] = nested(9, api.ExLike)
	isDeep(t, "a wide one", api.Expr{Args: wide}, 10)
}

// TestPa2Sub: what is within a sub-query does not count.
func TestPa2Sub(t *testing.T) {
	deep := nested(50, api.ExUnary)
	q := api.Query{Selects: []api.Select{{
		Items:  []api.Item{{Expr: deep}},
		From:   []api.Source{{On: []api.Expr{deep}}},
		Where:  []api.Expr{deep},
		Group:  []api.Expr{deep},
		Having: []api.Expr{deep},
	}}}
	for kind := range api.ExExists + 1 {
		isDeep(t, put("of kind %d", kind), api.Expr{Kind: kind, Sub: []api.Query{q}}, 1)
		isDeep(t, put("of kind %d, with more", kind), api.Expr{Kind: kind, Sub: []api.Query{{}, q, q}}, 1)
		isDeep(t, put("of kind %d, and arguments", kind), api.Expr{Kind: kind, Args: []api.Expr{nested(3, kind)}, Sub: []api.Query{q}}, 4)
		isDeep(t, put("in one of kind %d", kind), api.Expr{Kind: kind, Args: []api.Expr{{Kind: api.ExSub, Sub: []api.Query{q}}}}, 2)
	}
}

// TestPa2Read: of what was read, each way of being deep counts one.
func TestPa2Read(t *testing.T) {
	for s, want := range map[string]int{
		"1": 1, "-1": 1, "a.b": 1, "'a'": 1, "NULL": 1, "COUNT(*)": 1, "((1))": 1,
		"(SELECT 1 + 2 + 3)": 1, "EXISTS (SELECT 1 + 2)": 1, "a IN (SELECT 1 + 2 + 3)": 2, "a + b IN (SELECT 1)": 3,
		"- a": 2, "NOT a": 2, "a IS NULL": 2, "a IS NOT NULL": 2, "a OR b": 2, "a = b": 2, "a || b": 2, "a % b": 2,
		"ABS(a)": 2, "COUNT(a)": 2, "SUBSTR(a, 1, -1)": 2, "a IN (1)": 2, "a NOT IN (1, 2 + 3)": 3, "a BETWEEN 1 AND 2": 2, "a BETWEEN 1 AND - a": 3, "a LIKE b": 2,
		"CASE WHEN a THEN b END": 2, "CASE WHEN a THEN b ELSE - c END": 3, "CASE WHEN a = b THEN 1 END": 3,
		"1 + 2 + 3": 3, "1 + (2 + (3 + 4))": 4, "(1 + 2) * (3 + 4)": 3, "1 * 2 + 3 * 4": 3, "NOT - a = b OR c": 5,
	} {
		x, _, e := parse.Expr(s)
		if e != api.OK {
			t.Errorf("%q: error %d", s, e)
		}
		isDeep(t, s, x, want)
	}
}

// TestPa2Most: no more than a thousand are counted.
func TestPa2Most(t *testing.T) {
	for _, n := range []int{998, 999, 1000, 1001, 1002, 2000, 5000} {
		isDeep(t, put("%d", n), nested(n, api.ExUnary), min(n, 1000))
		wide := api.Expr{Args: []api.Expr{nested(3, 1), nested(n-1, api.ExCase), {}}}
		isDeep(t, put("%d beside others", n), wide, min(n, 1000))
	}
}

// TestPa2Shared: lists of arguments that many have are gone over once, not as often as there are ways to them.
func TestPa2Shared(t *testing.T) {
	e := api.Expr{Kind: api.ExLit}
	for n := 2; n <= 1100; n++ {
		e = api.Expr{Kind: api.ExBinary, Args: []api.Expr{e, e}}
		if n%100 == 50 {
			isDeep(t, put("%d shared", n), e, min(n, 1000))
		}
	}
	args := make([]api.Expr, 64)
	for k := range args {
		args[k].Args = args[k+1:]
	}
	isDeep(t, "ends of a list", api.Expr{Args: args}, 65)
	for k := range args {
		args[k].Args = args[:k]
	}
	isDeep(t, "beginnings of a list", api.Expr{Args: args}, 65)
	isDeep(t, "one of these", args[20], 21)
}

// TestPa2Many: lists that have many expressions in common take no longer than these are many.
func TestPa2Many(t *testing.T) {
	args := make([]api.Expr, 3000)
	for k := range args {
		args[k].Args = args[k+1:]
	}
	isDeep(t, "ends of a long list", api.Expr{Args: args}, 1000)
	isDeep(t, "the end of it", args[2500], 500)
	for k := range args {
		args[k].Args = args[:k]
	}
	isDeep(t, "beginnings of a long list", api.Expr{Args: args}, 1000)
	isDeep(t, "the beginning of it", args[499], 500)
}

// TestPa2Round: of one that is its own argument a thousand are counted.
func TestPa2Round(t *testing.T) {
	for _, size := range []int{1, 2, 3, 16, 100} {
		args := make([]api.Expr, size)
		for k := range args {
			args[k] = api.Expr{Kind: k, Args: args}
		}
		isDeep(t, put("%d that are arguments of all", size), args[0], 1000)
		isDeep(t, put("%d that are arguments of all", size), api.Expr{Args: args}, 1000)
		for k := range args {
			args[k].Args = nil
		}
		args[size-1].Args = args
		isDeep(t, put("%d of which the last one is round", size), args[size-1], 1000)
		args[size-1].Args = args[:size-1]
		isDeep(t, put("%d of which none is", size), args[size-1], min(size, 2))
	}
	first, second := make([]api.Expr, 2), make([]api.Expr, 3)
	first[1].Args, second[0].Args, second[2].Args = second, first, first
	isDeep(t, "two in turns", first[1], 1000)
	isDeep(t, "none of them", first[0], 1)
}

// plainDeep is how deep an expression is, by going over all that stand so deep.
func plainDeep(e api.Expr) int {
	level := map[*api.Expr]bool{&e: true}
	for deep := 1; ; deep++ {
		next := map[*api.Expr]bool{}
		for x := range level {
			for k := range x.Args {
				next[&x.Args[k]] = true
			}
		}
		if len(next) == 0 || deep == 1000 {
			return deep
		}
		level = next
	}
}

// TestPa2Run: a long run of expressions that have parts of lists in common, some of them their own arguments, against the plain way.
func TestPa2Run(t *testing.T) {
	x := dice(17)
	round := 0
	for run := range 3000 {
		all := make([]api.Expr, 1+x.below(40))
		for k := range all {
			from := x.below(len(all))
			if run%4 > 0 {
				// Only those behind, so that none is its own argument.
				from = k + 1 + x.below(len(all)-k)
			}
			to := from + min(x.below(4), len(all)-min(from, len(all)))
			if to > from {
				all[k].Args = all[from:to]
			}
		}
		for _, e := range all[:min(5, len(all))] {
			want := plainDeep(e)
			isDeep(t, "one", e, want)
			if want == 1000 {
				round++
			}
		}
	}
	if round < 100 || round > 6000 {
		t.Errorf("%d have no end", round)
	}
}
