package check_test

import (
	"fmt"
	"reflect"
	"strings"
	"testing"

	"quayside/api"
	"quayside/check"
)

// oddInts are what no kind, and nothing that is done, is.
var oddInts = []int{api.MinInt, -1, 0, 1, 2, 5, 8, 13, 14, 33, 1 << 32, api.MaxInt}

// oddExprs are those that no text is.
func oddExprs() []api.Expr {
	l := []api.Expr{{}}
	for kind := range 15 {
		for op := range 34 {
			for args := range 4 {
				e := api.Expr{Kind: kind, Op: op, Col: op, At: op, Name: strings.Repeat("a", args), Table: strings.Repeat("t", op%2), Down: op%2 > 0, Args: make([]api.Expr, args), Sub: make([]api.Query, op%3)}
				e.Val = api.Value{Kind: args + op%3, N: op, S: "x"}
				for k := range e.Args {
					e.Args[k] = l[len(l)/(k+2)]
				}
				for k := range e.Sub {
					e.Sub[k] = asks(api.Select{Items: []api.Item{{Expr: l[len(l)/(k+3)]}}})
				}
				l = append(l, e)
			}
		}
		for _, n := range oddInts {
			l = append(l, api.Expr{Kind: n, Op: kind, Col: n, At: n}, api.Expr{Kind: kind, Op: n, Val: api.Value{Kind: n, N: n}, Args: l[:3]})
		}
	}
	return l
}

// around is a query that has an expression, and what it has, everywhere.
func around(e api.Expr) api.Query {
	s := api.Select{How: e.Kind, Items: []api.Item{{Expr: e, As: e.Name}, {Star: e.Down}}, From: []api.Source{{Table: "t"}, {Table: e.Table, As: e.Name, Left: e.Down, On: e.Args}}, Where: e.Args, Group: e.Args, Having: e.Args}
	return api.Query{Selects: []api.Select{s, s, {}}, Order: []api.Key{{Place: e.Op, Name: e.Name, Down: e.Down}}, Limit: e.Col, Offset: e.Col}
}

// callAll is what each call of the layer answers of an expression, as text.
func callAll(e api.Expr) string {
	var b strings.Builder
	put := func(c api.Core, at int, why api.Errno) { fmt.Fprintf(&b, "%+v %d %d\n", c, at, why) }
	put(check.Query(around(e), some()))
	q := around(e)
	q.Selects = q.Selects[:1]
	q.Selects[0].From = q.Selects[0].From[:1]
	put(check.Query(q, some()))
	put(check.Query(asks(api.Select{Items: []api.Item{{Expr: e}}, From: q.Selects[0].From}), some()))
	put(check.Query(asks(api.Select{Group: []api.Expr{e, {Kind: api.ExLit}}, Items: []api.Item{{Expr: e}}, From: q.Selects[0].From}), some()))
	x, is, at, why := check.Expr(e, some()[0].Columns)
	fmt.Fprintf(&b, "%+v %+v %d %d\n", x, is, at, why)
	return b.String()
}

func noPanic(t *testing.T) {
	if r := recover(); r != nil {
		t.Error("panic:", r)
	}
}

// TestR1: every call ends without a panic, at any expression, any query and any tables.
func TestR1(t *testing.T) {
	defer noPanic(t)
	for _, e := range oddExprs() {
		callAll(e)
	}
	odd := []api.Schema{{}, {Columns: make([]api.Column, 3)}, {Name: "t", Columns: []api.Column{is("a", -1, false), is("", 99, true), is("b", api.MaxInt, false), is("b", api.MinInt, false)}}}
	for _, e := range oddExprs()[:300] {
		check.Query(around(e), odd)
		check.Expr(e, odd[2].Columns)
	}
	check.Expr(binary(named("", "a"), api.DoEq, named("", "")), odd[2].Columns)
}

// TestR1Round: what is within itself ends, and so does what is much of the same within one another.
func TestR1Round(t *testing.T) {
	defer noPanic(t)
	for kind := range 15 {
		for _, op := range []int{api.DoNot, api.DoIsNull, api.DoOr, api.DoEq, api.DoMul, api.DoSum, api.DoCount, api.DoCoalesce} {
			for n := 1; n < 6; n += 2 {
				args, subs := make([]api.Expr, 3), make([]api.Query, 1)
				for k := range args {
					args[k] = api.Expr{Kind: kind, Op: op, Down: true, Args: args[:min(n, 3)], Sub: subs[:n/3%2]}
				}
				subs[0] = asks(api.Select{Items: []api.Item{{Expr: args[0]}, {Expr: args[1]}}, From: []api.Source{{Table: "t", On: args}}, Where: args, Group: args, Having: args})
				if n == 5 {
					subs[0].Selects[0].Group, subs[0].Selects[0].From[0].On = nil, nil
				}
				check.Expr(args[0], nil)
				check.Query(subs[0], some())
			}
		}
	}
	for kind := 1; kind < 15; kind++ {
		for _, op := range []int{api.DoAnd, api.DoMin, api.DoLeast} {
			e := api.Expr{Kind: api.ExLit, Val: api.Value{Kind: api.Bool}}
			for range 40 {
				e = api.Expr{Kind: kind, Op: op, Args: []api.Expr{e, e}}
			}
			check.Expr(e, nil)
			check.Query(asks(api.Select{Where: []api.Expr{e}}), nil)
			check.Query(asks(api.Select{Items: []api.Item{{Expr: e}}, Group: []api.Expr{e}}), nil)
		}
	}
	sub := asks(api.Select{Items: []api.Item{{Expr: number(1)}}})
	for range 40 {
		e := api.Expr{Kind: api.ExSub, Sub: []api.Query{sub}}
		sub = asks(api.Select{Items: []api.Item{{Expr: binary(e, api.DoAdd, e)}}})
	}
	check.Query(sub, nil)
	long := make([]api.Expr, 1<<20)
	e := api.Expr{Kind: api.ExIn, Args: long}
	for range 999 {
		long[0] = e
		e = api.Expr{Kind: api.ExIn, Args: long}
	}
	check.Expr(e, nil)
	check.Query(asks(api.Select{Items: []api.Item{{Expr: e}}, Group: []api.Expr{null(), number(1)}}), nil)
}

// TestR1Much: what is much, but not within itself, is checked whole.
func TestR1Much(t *testing.T) {
	wantDeep, deep := column(2), named("", "c")
	for range 9000 {
		deep, wantDeep = unary(api.DoNot, deep), unary(api.DoNot, wantDeep)
	}
	got, what, at, e := check.Expr(deep, some()[0].Columns)
	if e != api.OK || at != 0 || what != is("", api.Bool, false) || !reflect.DeepEqual(got, wantDeep) {
		t.Errorf("deep: %+v, error %d at %d", what, e, at)
	}
	long := call(api.DoLeast, make([]api.Expr, 1<<17)...)
	for k := range long.Args {
		long.Args[k] = number(k)
	}
	got, what, at, e = check.Expr(long, nil)
	if e != api.OK || at != 0 || what != is("", api.Int, false) || !reflect.DeepEqual(got, long) {
		t.Errorf("long: %+v, error %d at %d", what, e, at)
	}
	var q api.Query
	for k := range 3000 {
		q.Selects = append(q.Selects, api.Select{How: api.SetAll, Items: []api.Item{{Expr: number(k)}, {Star: true}}, From: []api.Source{{Table: "t"}}})
		q.Order = append(q.Order, api.Key{Place: 1 + k%5})
	}
	if c, at, e := check.Query(q, some()); e != api.OK || len(c.Parts) != 3000 || len(c.Order) != 3000 || len(c.Columns) != 5 {
		t.Errorf("%d parts, error %d at %d", len(c.Parts), e, at)
	}
}

// TestR2: what no text is, is refused as having arguments that may not be, and nothing stands beside an error.
func TestR2(t *testing.T) {
	sub := []api.Query{asks(api.Select{Items: []api.Item{{Expr: number(1)}}})}
	bad := []api.Expr{
		{}, {Kind: 14}, {Kind: -1, Op: api.DoNot, Args: []api.Expr{null()}},
		{Kind: api.ExLit, Val: api.Value{Kind: 4}}, {Kind: api.ExLit, Val: api.Value{Kind: -1}}, {Kind: api.ExLit, Args: []api.Expr{null()}}, {Kind: api.ExLit, Sub: sub},
		{Kind: api.ExCol, Name: "a", Args: []api.Expr{null()}}, {Kind: api.ExCol, Name: "a", Sub: sub},
		{Kind: api.ExUnary, Op: api.DoNot}, {Kind: api.ExUnary, Op: api.DoNot, Args: []api.Expr{null(), null()}}, {Kind: api.ExUnary, Args: []api.Expr{null()}}, {Kind: api.ExUnary, Op: api.DoAbs, Args: []api.Expr{null()}},
		{Kind: api.ExUnary, Op: api.DoNeg, Args: []api.Expr{null()}, Sub: sub},
		{Kind: api.ExBinary, Op: api.DoAnd}, {Kind: api.ExBinary, Op: api.DoAnd, Args: []api.Expr{null()}}, {Kind: api.ExBinary, Op: api.DoNullif, Args: []api.Expr{null(), null()}},
		{Kind: api.ExAgg, Op: api.DoCountAll, Args: []api.Expr{null()}}, {Kind: api.ExAgg, Op: api.DoSum}, {Kind: api.ExAgg, Op: api.DoAbs, Args: []api.Expr{null()}},
		{Kind: api.ExCall, Op: api.DoMax, Args: []api.Expr{null()}}, {Kind: api.ExCall, Op: api.DoCoalesce}, {Kind: api.ExCall, Op: api.DoSubstr, Args: []api.Expr{null(), null()}}, {Kind: api.ExCall, Op: 99, Args: []api.Expr{null()}},
		{Kind: api.ExCall, Op: api.DoNullif, Args: []api.Expr{null()}}, {Kind: api.ExCall, Op: api.DoLength},
		{Kind: api.ExCase}, {Kind: api.ExCase, Args: []api.Expr{null()}}, {Kind: api.ExCase, Args: []api.Expr{null(), null()}}, {Kind: api.ExCase, Args: []api.Expr{null(), null(), null(), null()}},
		{Kind: api.ExIn, Args: []api.Expr{null()}}, {Kind: api.ExIn}, {Kind: api.ExBetween, Args: []api.Expr{null(), null()}}, {Kind: api.ExLike, Args: []api.Expr{null()}}, {Kind: api.ExLike, Args: []api.Expr{null(), null()}, Sub: sub},
		{Kind: api.ExExists}, {Kind: api.ExSub, Sub: sub, Args: []api.Expr{null()}}, {Kind: api.ExInSub, Sub: sub}, {Kind: api.ExSub, Sub: append(sub, sub...)}, {Kind: api.ExExists, Sub: sub, Args: []api.Expr{null()}},
	}
	for _, e := range bad {
		e.At = 7
		q := asks(api.Select{Items: []api.Item{{Expr: e}}, From: []api.Source{{Table: "t"}}})
		if c, at, why := check.Query(q, some()); at != 7 || why != api.ErrType || !reflect.DeepEqual(c, api.Core{}) {
			t.Errorf("%+v: %+v, error %d at %d", e, c, why, at)
		}
	}
	for _, e := range []api.Expr{{Kind: api.ExSub, At: 7}, {Kind: api.ExInSub, At: 7, Args: []api.Expr{null()}}, {Kind: api.ExSub, At: 7, Sub: []api.Query{{}}}} {
		if c, at, why := check.Query(asks(api.Select{Where: []api.Expr{e}}), some()); at != 7 || why != api.ErrWidth || !reflect.DeepEqual(c, api.Core{}) {
			t.Errorf("%+v: %+v, error %d at %d", e, c, why, at)
		}
	}
	for _, k := range []api.Key{{At: 7}, {At: 7, Place: -1}, {At: 7, Place: 3}, {At: 7, Place: api.MinInt, Name: "p"}, {At: 7, Place: api.MaxInt}} {
		q := asks(api.Select{Items: []api.Item{{Expr: number(1)}, {Expr: number(2), As: "p"}}})
		q.Order = []api.Key{k}
		if c, at, why := check.Query(q, nil); at != 7 || why != api.ErrName || !reflect.DeepEqual(c, api.Core{}) {
			t.Errorf("%+v: %+v, error %d at %d", k, c, why, at)
		}
	}
	// What has nothing is nothing wrong.
	if c, at, why := check.Query(api.Query{Limit: 3, Offset: 4}, nil); at != 0 || why != api.OK || !reflect.DeepEqual(c, api.Core{Limit: 3, Offset: 4}) {
		t.Errorf("%+v, error %d at %d", c, why, at)
	}
	if c, at, why := check.Query(api.Query{Selects: make([]api.Select, 2)}, nil); at != 0 || why != api.OK || len(c.Parts) != 2 || len(c.Columns) != 0 {
		t.Errorf("%+v, error %d at %d", c, why, at)
	}
}

// behind is a list, with others in the room behind its end.
func behind[T any](l []T, others ...T) []T {
	return append(append(make([]T, 0, len(l)+len(others)), l...), others...)[:len(l)]
}

// TestR3: what is handed in is not read beyond its end, and not changed; what is answered is new.
func TestR3(t *testing.T) {
	x := dice(33)
	for range 2000 {
		m := &maker{dice: &x, left: 60, odd: 2000}
		q := m.query([]int{1 + x.below(3)}, 5)
		want, wantAt, wantE := check.Query(q, some())
		s := &q.Selects[0]
		s.Items, s.From = behind(s.Items, api.Item{Star: true}), behind(s.From, api.Source{Table: "z"})
		s.Where, s.Group, s.Having = behind(s.Where, number(1)), behind(s.Group, named("", "none")), behind(s.Having, text("x"))
		for k := range s.Items {
			e := &s.Items[k].Expr
			e.Args, e.Sub = behind(e.Args, number(1), named("", "none")), behind(e.Sub, api.Query{})
		}
		q.Order, q.Selects = behind(q.Order, api.Key{Place: 99}), behind(q.Selects, api.Select{}, api.Select{})
		tables := behind(some(), api.Schema{Name: "z"})
		for k := range tables {
			tables[k].Columns = behind(tables[k].Columns, is("none", api.Bool, false), is("a", api.Int, false))
		}
		was := fmt.Sprintf("%#v", []any{q, q.Selects[:cap(q.Selects)], s.Group[:cap(s.Group)], tables[:cap(tables)], tables[0].Columns[:6]})
		got, at, e := check.Query(q, tables)
		if at != wantAt || e != wantE || shown(got) != shown(want) {
			t.Fatalf("%s: error %d at %d", shown(q), e, at)
		}
		spoil(reflect.ValueOf(&got).Elem())
		if was != fmt.Sprintf("%#v", []any{q, q.Selects[:cap(q.Selects)], s.Group[:cap(s.Group)], tables[:cap(tables)], tables[0].Columns[:6]}) {
			t.Fatalf("%s is another one then", was)
		}
	}
	columns := behind(some()[0].Columns, is("none", api.Int, false))
	if _, _, at, e := check.Expr(named("", "none"), columns); at != 0 || e != api.ErrName {
		t.Errorf("a column behind the end: error %d at %d", e, at)
	}
	in := other(api.ExIn, false, behind([]api.Expr{named("", "a"), number(1)}, text("x"))...)
	got, _, _, e := check.Expr(in, columns)
	same(t, "Expr", got, other(api.ExIn, false, column(0), number(1)))
	spoil(reflect.ValueOf(&got).Elem())
	if e != api.OK || shown(in) != shown(other(api.ExIn, false, named("", "a"), number(1))) {
		t.Errorf("%+v, error %d", in, e)
	}
	tables := check.Tables()
	want := shown(tables)
	spoil(reflect.ValueOf(&tables).Elem())
	same(t, "Tables", check.Tables(), want)
}

// spoil writes over all that something has, each place once: no two lists have the same.
func spoil(v reflect.Value) {
	switch v.Kind() {
	case reflect.Struct:
		for k := range v.NumField() {
			spoil(v.Field(k))
		}
	case reflect.Slice:
		for k := range v.Len() {
			spoil(v.Index(k))
		}
	case reflect.Int:
		if v.Int() == 77777 {
			panic("two lists share what they have")
		}
		v.SetInt(77777)
	case reflect.String:
		v.SetString("spoiled")
	case reflect.Bool:
		v.SetBool(!v.Bool())
	}
}

// TestR3NilAndEmpty: nil and the empty list are the same.
func TestR3NilAndEmpty(t *testing.T) {
	none := []api.Expr{}
	q := api.Query{Selects: []api.Select{{Items: []api.Item{{Expr: api.Expr{Kind: api.ExLit, Args: none, Sub: []api.Query{}}}}, From: []api.Source{}, Where: none, Group: none, Having: none}}, Order: []api.Key{}, Limit: -1}
	c, at, e := check.Query(q, []api.Schema{})
	want, _, _ := check.Query(asks(api.Select{Items: []api.Item{{Expr: null()}}}), nil)
	if at != 0 || e != api.OK || c.Parts[0].Grouped || shown(c) != shown(want) {
		t.Errorf("%+v, error %d at %d; want %+v", c, e, at, want)
	}
	q.Selects[0].Items[0] = api.Item{Star: true}
	if _, at, e := check.Query(q, []api.Schema{}); at != 0 || e != api.ErrName {
		t.Errorf("error %d at %d", e, at)
	}
}

// TestR4: what is answered hangs on the arguments alone.
func TestR4(t *testing.T) {
	l := oddExprs()
	x := dice(44)
	for range 1000 {
		m := &maker{dice: &x, left: 40, odd: 100}
		m.row = asked([]string{"t", "t", "t", "t"}, some()[0].Columns)
		l = append(l, m.expr(1+x.below(3), 5))
	}
	var first []string
	for _, e := range l {
		first = append(first, callAll(e))
	}
	for k := len(l) - 1; k >= 0; k-- {
		if got := callAll(l[k]); got != first[k] {
			t.Fatalf("%.400s; ahead it was %.400s", got, first[k])
		}
	}
	want := shown(check.Tables())
	check.Query(asks(api.Select{Items: []api.Item{{Star: true}}, From: []api.Source{{Table: "stock"}}}), check.Tables())
	same(t, "Tables", check.Tables(), want)
}

// TestR4Meaningless: what an expression's kind gives no meaning does not matter, and is not kept.
func TestR4Meaningless(t *testing.T) {
	var fill func(e *api.Expr)
	fill = func(e *api.Expr) {
		if e.Kind != api.ExCol {
			e.Table, e.Name = "x", "y"
		}
		if e.Kind != api.ExLit {
			e.Val = api.Value{Kind: api.Int, N: 5, S: "x"}
		}
		switch e.Kind {
		case api.ExLit, api.ExCol, api.ExSub, api.ExExists, api.ExCase:
			e.Down, e.Op = true, 9
		case api.ExUnary, api.ExBinary, api.ExCall, api.ExAgg:
			e.Down = true
		default:
			e.Op = 9
		}
		e.Col = 99
		for k := range e.Args {
			fill(&e.Args[k])
		}
	}
	for _, s := range []string{
		"select a, count(*) + sum(d), upper(b), case when c then 1 end from t group by a, b, c, case when c then 1 end",
		"select b like 'x', a in (1, 2), exists (select 1), not c, a between 1 and 2, 1 in (select 2), (select 3) from t",
	} {
		q, want := parsed(t, s), core(t, s)
		for k := range q.Selects[0].Items {
			fill(&q.Selects[0].Items[k].Expr)
		}
		got, at, e := check.Query(q, some())
		if e != api.OK {
			t.Errorf("%s: error %d at %d", s, e, at)
		}
		same(t, s, got, want)
	}
}
