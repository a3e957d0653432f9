package print_test

import (
	"fmt"
	"reflect"
	"strings"
	"testing"
	"unsafe"

	"quayside/api"
	"quayside/print"
)

// oddInts are what no kind, and nothing that is done, is.
var oddInts = []int{api.MinInt, -1, 0, 1, 2, 5, 8, 13, 14, 33, 1 << 32, api.MaxInt}

// callAll is what each call of the layer answers of an expression.
func callAll(e api.Expr) []string {
	q := asks(api.Select{Items: []api.Item{{Expr: e, As: e.Name}}, From: []api.Source{{Table: e.Table, As: e.Name, Left: e.Down, On: e.Args}}, Where: e.Args, Group: e.Args, Having: e.Args})
	q.Selects[0].How, q.Limit, q.Offset = e.Kind, e.Col, e.Col
	q.Order = []api.Key{{Place: e.Op, Name: e.Name, Down: e.Down}}
	q.Selects = append(q.Selects, q.Selects[0], api.Select{})
	return []string{print.Expr(e), print.Query(q), print.Function(e.Op), print.Function(e.Kind)}
}

// oddExprs are those that no text is.
func oddExprs() []api.Expr {
	l := []api.Expr{{}}
	for kind := range 15 {
		for op := range 34 {
			for args := range 4 {
				e := api.Expr{Kind: kind, Op: op, Col: op, Name: strings.Repeat("x", 70*args), Table: "\x00\"", Down: op%2 > 0, Args: make([]api.Expr, args), Sub: make([]api.Query, args)}
				e.Val = api.Value{Kind: args + op%3, N: op, S: "x"}
				for k := range e.Args {
					e.Args[k] = l[len(l)/(k+2)]
				}
				l = append(l, e)
			}
		}
		for _, n := range oddInts {
			l = append(l, api.Expr{Kind: n, Op: kind, Col: n}, api.Expr{Kind: kind, Op: n, Val: api.Value{Kind: n, N: n}, Args: l[:3]})
		}
	}
	return l
}

// TestR1: every call ends without a panic, at any expression and any query.
func TestR1(t *testing.T) {
	defer func() {
		if r := recover(); r != nil {
			t.Error("panic:", r)
		}
	}()
	for _, e := range oddExprs() {
		callAll(e)
	}
	print.Query(api.Query{})
	print.Query(api.Query{Selects: []api.Select{{}, {}}, Order: []api.Key{{}}, Limit: api.MinInt, Offset: api.MinInt})
}

// TestR1Round: what is within itself ends, and so does what is much of the same within one another.
func TestR1Round(t *testing.T) {
	for kind := 1; kind < 15; kind++ {
		for _, op := range []int{api.DoNot, api.DoNeg, api.DoNotNull, api.DoOr, api.DoEq, api.DoMul, api.DoSum} {
			args, subs := make([]api.Expr, 6), make([]api.Query, 1)
			for k := range args {
				args[k] = api.Expr{Kind: kind, Op: op, Down: true, Args: args[k%2:], Sub: subs}
			}
			subs[0] = asks(api.Select{Items: []api.Item{{Expr: args[0]}, {Expr: args[1]}}, From: []api.Source{{On: args}, {On: args[1:]}}, Where: args, Group: args, Having: args})
			if s := print.Expr(args[5]) + print.Query(subs[0]); len(s) > 1<<23 {
				t.Errorf("kind %d, op %d: %d bytes", kind, op, len(s))
			}
		}
	}
	for kind := 1; kind < 15; kind++ {
		e := column("", "a")
		for range 3000 {
			e = api.Expr{Kind: kind, Op: api.DoAnd, Args: []api.Expr{e, e, e}, Sub: []api.Query{{Selects: []api.Select{{Where: []api.Expr{e}}, {Where: []api.Expr{e}}}}}}
		}
		print.Expr(e)
	}
	long := make([]api.Expr, 1<<20)
	e := api.Expr{Kind: api.ExCase, Args: long}
	for range 999 {
		long[0] = e
		e = api.Expr{Kind: api.ExCase, Args: long}
	}
	print.Expr(e)
}

// TestR1Much: what is much, but not within itself, is put whole.
func TestR1Much(t *testing.T) {
	l := make([]api.Expr, 1<<16)
	for k := range l {
		l[k] = number(k)
	}
	isExpr(t, call(api.DoLeast, l...), "LEAST("+plainList(l)+")")
	e := column("", "a")
	for range 900 {
		e = unary(api.DoNot, e)
	}
	isExpr(t, e, strings.Repeat("NOT ", 900)+"a")
	name := strings.Repeat("x", 1<<20)
	isExpr(t, column("", name), `"`+name+`"`)
}

// TestR2: there are no errors: of what is none, there is a text, or the empty one.
func TestR2(t *testing.T) {
	isExpr(t, api.Expr{}, "")
	isExpr(t, api.Expr{Kind: 99, Name: "a", Val: api.Value{Kind: api.Int, N: 5}}, "")
	isExpr(t, api.Expr{Kind: api.ExLit, Val: api.Value{Kind: 9}}, "NULL")
	isExpr(t, api.Expr{Kind: api.ExLit, Val: api.Value{Kind: api.Bool, N: 2}}, "NULL")
	isExpr(t, api.Expr{Kind: api.ExLit, Val: api.Value{Kind: api.Text, S: strings.Repeat("x", 65)}}, "NULL")
}

// behind is a list, with others in the room behind its end.
func behind[T any](l []T, others ...T) []T {
	return append(append(make([]T, 0, len(l)+len(others)), l...), others...)[:len(l)]
}

// TestR3: what is handed in is not read beyond its end, and not changed; what is answered is new.
func TestR3(t *testing.T) {
	x := dice(3)
	for range 300 {
		m := &maker{dice: &x, left: 100}
		e, q := m.expr(5), m.query(4)
		wantE, wantQ := plainExpr(e), plainQuery(q)
		e.Args, e.Sub = behind(e.Args, number(1), column("", "a")), behind(e.Sub, all("t"))
		s := &q.Selects[0]
		s.Items, s.From = behind(s.Items, api.Item{Star: true}), behind(s.From, api.Source{Table: "z"})
		s.Where, s.Group, s.Having = behind(s.Where, truth(1)), behind(s.Group, null()), behind(s.Having, text("x"))
		q.Order, q.Selects = behind(q.Order, api.Key{Place: 1}), behind(q.Selects, api.Select{})
		wasE, wasQ := fmt.Sprintf("%#v %#v", e, e.Args[:cap(e.Args)]), fmt.Sprintf("%#v %#v", q, s.Group[:cap(s.Group)])
		isExpr(t, e, wantE)
		isQuery(t, q, wantQ)
		if wasE != fmt.Sprintf("%#v %#v", e, e.Args[:cap(e.Args)]) || wasQ != fmt.Sprintf("%#v %#v", q, s.Group[:cap(s.Group)]) {
			t.Fatalf("%s, %s are others then", wantE, wantQ)
		}
	}
	name := strings.Repeat("a", 9)[:8]
	for _, s := range []string{print.Expr(column("", name)), print.Query(all(name))[14:]} {
		if unsafe.StringData(s) == unsafe.StringData(name) || s != name {
			t.Error("a name is answered as it lies there:", s)
		}
	}
	isQuery(t, api.Query{Selects: []api.Select{{Items: []api.Item{{Expr: api.Expr{Kind: api.ExLit, Args: []api.Expr{}}}}, From: []api.Source{}, Where: []api.Expr{}, Group: []api.Expr{}, Having: []api.Expr{}}}, Order: []api.Key{}, Limit: -1}, "SELECT NULL")
}

// TestR4: what is answered hangs on the arguments alone.
func TestR4(t *testing.T) {
	l := oddExprs()
	var first [][]string
	for _, e := range l {
		first = append(first, callAll(e))
	}
	for k := len(l) - 1; k >= 0; k-- {
		if got := callAll(l[k]); !reflect.DeepEqual(got, first[k]) {
			t.Fatalf("%.200q; ahead it was %.200q", got, first[k])
		}
	}
	// Where expressions begin, and what their kind gives no meaning, does not matter.
	x := dice(4)
	for range 300 {
		m := &maker{dice: &x, left: 100}
		e := m.expr(5)
		want := print.Expr(e)
		e.At, e.Col = 5, 7
		isExpr(t, e, want)
	}
}
