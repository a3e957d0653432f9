package table_test

import (
	"fmt"
	"slices"
	"strings"
	"testing"

	"quayside/api"
	"quayside/ledger"
	"quayside/table"
)

// tablesOf are the tables of a ledger, as the document tells their columns, keys and rows.
func tablesOf(l api.Ledger) []model {
	stock := model{name: "stock", keys: 2, columns: []api.Column{column("sku", api.Text), column("loc", api.Text), column("on_hand", api.Int), column("held", api.Int)}}
	for _, s := range l.Stocks {
		stock.rows = append(stock.rows, row(text(s.Sku), text(s.Loc), number(s.OnHand), number(s.Held)))
	}
	holds := model{name: "holds", keys: 1, columns: []api.Column{column("id", api.Int), column("sku", api.Text), column("loc", api.Text), column("qty", api.Int), column("state", api.Text), orNull("due", api.Int)}}
	for _, h := range l.Holds {
		due := number(h.Due)
		if h.Due == 0 {
			due = null
		}
		holds.rows = append(holds.rows, row(number(h.Id), text(h.Sku), text(h.Loc), number(h.Qty), text([]string{"active", "out", "up"}[h.State]), due))
	}
	moves := model{name: "moves", keys: 1, columns: []api.Column{column("seq", api.Int), column("sku", api.Text), column("loc", api.Text), column("delta", api.Int), column("kind", api.Text), orNull("hold", api.Int)}}
	kinds := map[int]string{api.OpReceive: "receive", api.OpCommit: "commit", api.OpTransfer: "transfer", api.OpAdjust: "adjust"}
	for _, m := range l.Moves {
		of := number(m.Hold)
		if m.Hold == 0 {
			of = null
		}
		moves.rows = append(moves.rows, row(number(m.Seq), text(m.Sku), text(m.Loc), number(m.Delta), text(kinds[m.Kind]), of))
	}
	return []model{stock, holds, moves}
}

func named(t *testing.T, what string, s table.Set, name string) table.Table {
	t.Helper()
	x, ok := s.Table(name)
	if !ok {
		t.Fatalf("%s: there is no table %q", what, name)
	}
	return x
}

// setIs: the tables are those of a ledger, and there are no others.
func setIs(t *testing.T, what string, s table.Set, l api.Ledger) {
	t.Helper()
	for _, m := range tablesOf(l) {
		looks(t, what+", "+m.name, named(t, what, s, m.name), m)
	}
	lacksOthers(t, what, s)
}

func lacksOthers(t *testing.T, what string, s table.Set) {
	t.Helper()
	for _, name := range []string{"", "stocks", "hold", "move", "Stock", "STOCK", "stock ", " stock", "stock\x00", "sku", "t", strings.Repeat("stock", 1000)} {
		lacks(t, what, s, name)
	}
}

func lacks(t *testing.T, what string, s table.Set, name string) {
	t.Helper()
	x, ok := s.Table(name)
	if ok {
		t.Fatalf("%s: there is a table %.99q", what, name)
	}
	isNone(t, what, x)
}

// isNoSet: it is the set that Of did not give.
func isNoSet(t *testing.T, what string, s table.Set) {
	t.Helper()
	for _, name := range []string{"stock", "holds", "moves"} {
		lacks(t, what, s, name)
	}
	lacksOthers(t, what, s)
	for _, l := range []api.Ledger{{}, some(t)} {
		next, e := s.Next(l)
		if e != api.ErrArg {
			t.Fatalf("%s: Next: %d", what, e)
		}
		lacks(t, what, next, "stock")
	}
}

func setOf(t *testing.T, l api.Ledger) table.Set {
	t.Helper()
	s, e := table.Of(l)
	if e != api.OK {
		t.Fatalf("Of: %d", e)
	}
	return s
}

func next(t *testing.T, s table.Set, l api.Ledger) table.Set {
	t.Helper()
	n, e := s.Next(l)
	if e != api.OK {
		t.Fatalf("Next: %d", e)
	}
	return n
}

func replayed(t *testing.T, ops ...api.Op) api.Ledger {
	t.Helper()
	l, n, e := ledger.Replay(api.Ledger{}, ops)
	if e != api.OK {
		t.Fatalf("operation %d is refused: %d", n, e)
	}
	return l
}

// some is a ledger with stocks, holds and movements of every sort.
func some(t *testing.T) api.Ledger {
	t.Helper()
	return replayed(t,
		api.Op{Kind: api.OpReceive, Sku: "s", Loc: "x", Qty: 9},
		api.Op{Kind: api.OpReceive, Sku: "s\x00", Loc: "x", Qty: 2},
		api.Op{Kind: api.OpReceive, Sku: "a", Loc: "y", Qty: api.MaxInt},
		api.Op{Kind: api.OpHold, Sku: "s", Loc: "x", Qty: 2, Due: 7},
		api.Op{Kind: api.OpHold, Sku: "s", Loc: "x", Qty: 1},
		api.Op{Kind: api.OpHold, Sku: "a", Loc: "y", Qty: 5, Due: 3},
		api.Op{Kind: api.OpTransfer, Sku: "s", Loc: "x", To: "w", Qty: 3},
		api.Op{Kind: api.OpCommit, Id: 1},
		api.Op{Kind: api.OpExpire, Due: 3},
		api.Op{Kind: api.OpAdjust, Sku: "s", Loc: "x", Qty: -1},
	)
}

// TestExample is the chapter's: the stock of 5 s at x: s, x, 5, 0.
func TestExample(t *testing.T) {
	s := setOf(t, replayed(t, api.Op{Kind: api.OpReceive, Sku: "s", Loc: "x", Qty: 5}))
	if got := named(t, "example", s, "stock").Rows(); !sameRows(got, []api.Row{{text("s"), text("x"), number(5), number(0)}}) {
		t.Error(got)
	}
}

// TestTb4Of: the tables of ledgers, and that these tables are as others: a row more fits, or not.
func TestTb4Of(t *testing.T) {
	setIs(t, "empty", setOf(t, api.Ledger{}), api.Ledger{})
	setIs(t, "empty, with operations", setOf(t, api.Ledger{Ops: 99, Stocks: []api.Stock{}}), api.Ledger{})
	l := some(t)
	s := setOf(t, l)
	setIs(t, "some", s, l)
	for _, m := range tablesOf(l) {
		x := named(t, "some", s, m.name)
		has(t, m.name, x, m)
		r := slices.Clone(m.rows[0])
		r[3] = number(77)
		has(t, m.name+", with another row", put(t, x, r), m.with(r))
		has(t, m.name+", without a row", x.Without(r[:m.keys]), m.without(r[:m.keys]))
		for col, c := range m.columns {
			bad := slices.Clone(m.rows[0])
			if bad[col] = null; c.Null {
				put(t, x, bad)
			} else {
				refuses(t, m.name, x, bad, api.ErrArg)
			}
			bad[col] = truth(1)
			refuses(t, m.name, x, bad, api.ErrArg)
		}
	}
	setIs(t, "some, behind all", s, l)
}

// TestTb4OfWritten writes out what stands in the tables of a ledger.
func TestTb4OfWritten(t *testing.T) {
	s := setOf(t, replayed(t,
		api.Op{Kind: api.OpReceive, Sku: "s", Loc: "x", Qty: 9},
		api.Op{Kind: api.OpReceive, Sku: "b", Loc: "x", Qty: 1},
		api.Op{Kind: api.OpHold, Sku: "s", Loc: "x", Qty: 2, Due: 7},
		api.Op{Kind: api.OpHold, Sku: "s", Loc: "x", Qty: 3},
		api.Op{Kind: api.OpCommit, Id: 2},
	))
	want := map[string][]api.Row{
		"stock": {{text("b"), text("x"), number(1), number(0)}, {text("s"), text("x"), number(6), number(2)}},
		"holds": {{number(1), text("s"), text("x"), number(2), text("active"), number(7)}, {number(2), text("s"), text("x"), number(3), text("out"), null}},
		"moves": {{number(1), text("s"), text("x"), number(9), text("receive"), null}, {number(2), text("b"), text("x"), number(1), text("receive"), null}, {number(3), text("s"), text("x"), number(-3), text("commit"), number(2)}},
	}
	for name, rows := range want {
		if got := named(t, "written", s, name).Rows(); !sameRows(got, rows) {
			t.Errorf("%s: %v, want %v", name, got, rows)
		}
	}
	if got := named(t, "written", s, "stock").Same(1, text("x")); len(got) != 2 {
		t.Error(got)
	}
	if got := named(t, "written", s, "holds").Between(5, api.Bound{}, api.Bound{}); len(got) != 1 {
		t.Error(got)
	}
}

// wrong are ledgers that may not be.
func wrong(t *testing.T) []api.Ledger {
	bend := func(how func(l *api.Ledger)) api.Ledger {
		l := some(t)
		how(&l)
		if ledger.Check(l) != api.ErrArg {
			t.Fatal("a ledger that should not be may be")
		}
		return l
	}
	return []api.Ledger{
		bend(func(l *api.Ledger) { l.Ops = -1 }),
		bend(func(l *api.Ledger) { l.Stocks[0].OnHand++ }),
		bend(func(l *api.Ledger) { l.Stocks[0].Held = -1 }),
		bend(func(l *api.Ledger) { slices.Reverse(l.Stocks) }),
		bend(func(l *api.Ledger) { l.Stocks = append(l.Stocks, l.Stocks[len(l.Stocks)-1]) }),
		bend(func(l *api.Ledger) { l.Stocks = nil }),
		bend(func(l *api.Ledger) { l.Stocks[0].Sku = "" }),
		bend(func(l *api.Ledger) { l.Holds[0].Id = 5 }),
		bend(func(l *api.Ledger) { l.Holds[0].State = 3 }),
		bend(func(l *api.Ledger) { l.Holds = l.Holds[:0:0] }),
		bend(func(l *api.Ledger) { l.Moves[1].Kind = api.OpHold }),
		bend(func(l *api.Ledger) { l.Moves[1].Sku = strings.Repeat("s", 65) }),
		bend(func(l *api.Ledger) { l.Moves = nil }),
		bend(func(l *api.Ledger) { l.Holds = append(l.Holds, crowded("", 4097).Holds[len(l.Holds):]...) }),
	}
}

// TestTb4Wrong: a ledger that may not be has no tables, and leaves those there are as they were.
func TestTb4Wrong(t *testing.T) {
	l := some(t)
	s, empty := setOf(t, l), setOf(t, api.Ledger{})
	for k, bad := range wrong(t) {
		what := fmt.Sprint("the wrong ledger ", k)
		if none, e := table.Of(bad); e != api.ErrArg {
			t.Fatalf("%s: Of: %d", what, e)
		} else {
			isNoSet(t, what, none)
		}
		for _, of := range []table.Set{s, empty} {
			if none, e := of.Next(bad); e != api.ErrArg {
				t.Fatalf("%s: Next: %d", what, e)
			} else {
				isNoSet(t, what, none)
			}
		}
		setIs(t, what, s, l)
		setIs(t, what, empty, api.Ledger{})
		setIs(t, what, next(t, empty, l), l)
	}
}

// TestTb4Zero: the zero value of a Set has no tables; Next of it is refused, as of each object that its package did not give.
func TestTb4Zero(t *testing.T) {
	var s table.Set
	isNoSet(t, "the zero value", s)
	isNoSet(t, "a literal", table.Set{})
}

// drawnOp is an operation of few skus, places and holds.
func (x *dice) drawnOp(holds int) api.Op {
	skus, locs := []string{"s", "s\x00", "t", "long name of a sku", "\xff"}, []string{"x", "y", "xx"}
	sku, loc := skus[x.below(len(skus))], locs[x.below(len(locs))]
	switch x.below(10) {
	case 0, 1, 2:
		return api.Op{Kind: api.OpReceive, Sku: sku, Loc: loc, Qty: 1 + x.below(9)}
	case 3, 4:
		return api.Op{Kind: api.OpHold, Sku: sku, Loc: loc, Qty: 1 + x.below(3), Due: x.below(3) * x.below(1000)}
	case 5:
		return api.Op{Kind: api.OpCommit, Id: 1 + x.below(holds+1)}
	case 6:
		return api.Op{Kind: api.OpRelease, Id: 1 + x.below(holds+1)}
	case 7:
		return api.Op{Kind: api.OpExpire, Due: x.below(100)}
	case 8:
		return api.Op{Kind: api.OpTransfer, Sku: sku, Loc: loc, To: locs[x.below(len(locs))], Qty: 1 + x.below(5)}
	}
	return api.Op{Kind: api.OpAdjust, Sku: sku, Loc: loc, Qty: x.below(9) - 4}
}

// TestTb4Next: along operations Next is what Of is, step by step and over leaps, forwards and back; elder sets stay.
func TestTb4Next(t *testing.T) {
	type kept struct {
		s table.Set
		l api.Ledger
	}
	for seed := range 3 {
		d := dice(99991 + 7919*seed)
		now := kept{s: setOf(t, api.Ledger{})}
		elder := []kept{now}
		for step := range 300 {
			l, e := ledger.Apply(now.l, d.drawnOp(len(now.l.Holds)))
			if e != api.OK {
				continue
			}
			now = kept{next(t, now.s, l), l}
			what := fmt.Sprint("run ", seed, ", step ", step)
			setIs(t, what, now.s, l)
			for _, m := range tablesOf(l) {
				asked(t, what+", "+m.name, &d, named(t, what, now.s, m.name), m)
			}
			if step%30 == 0 {
				alike(t, what, now.s, setOf(t, l))
				elder = append(elder, now)
			}
			if from := elder[d.below(len(elder))]; step%10 == 0 {
				setIs(t, what+", by a leap", next(t, from.s, l), l)
				setIs(t, what+", by a leap back", next(t, now.s, from.l), from.l)
			}
		}
		for k, o := range elder {
			setIs(t, fmt.Sprint("run ", seed, ", the elder set ", k), o.s, o.l)
		}
		if len(now.l.Stocks) < 8 || len(now.l.Holds) < 20 || len(now.l.Moves) < 90 {
			t.Errorf("run %d: only %d, %d, %d rows", seed, len(now.l.Stocks), len(now.l.Holds), len(now.l.Moves))
		}
	}
}

// alike: two sets answer the same, whatever they were made of.
func alike(t *testing.T, what string, a, b table.Set) {
	t.Helper()
	for _, name := range []string{"stock", "holds", "moves"} {
		x, y := named(t, what, a, name), named(t, what, b, name)
		if !slices.Equal(x.Columns(), y.Columns()) || !sameRows(x.Rows(), y.Rows()) {
			t.Fatalf("%s: %s: %s and %s", what, name, short(x.Rows()), short(y.Rows()))
		}
		for col := range x.Columns() {
			for _, r := range x.Rows() {
				end := api.Bound{Has: true, Val: r[col]}
				if !sameRows(x.Same(col, r[col]), y.Same(col, r[col])) || !sameRows(x.Between(col, end, end), y.Between(col, end, end)) {
					t.Fatalf("%s: %s: not the same by %v in the column %d", what, name, r[col], col)
				}
			}
			if !sameRows(x.Between(col, api.Bound{}, api.Bound{}), y.Between(col, api.Bound{}, api.Bound{})) {
				t.Fatalf("%s: %s: not in the same order by the column %d", what, name, col)
			}
		}
	}
}

// crowded is a ledger with as many stocks, holds and movements; the names begin with some text.
func crowded(begin string, n int) api.Ledger {
	l := api.Ledger{Ops: n}
	for k := range n {
		sku, loc := fmt.Sprintf("%s%04d", begin, k/2), fmt.Sprint("loc", k%2)
		l.Stocks = append(l.Stocks, api.Stock{Sku: sku, Loc: loc, OnHand: 1 + k})
		l.Holds = append(l.Holds, api.Hold{Id: k + 1, Sku: sku, Loc: "over", Qty: 1 + k%9, State: api.HoldOut + k%2, Due: k % 3})
		l.Moves = append(l.Moves, api.Move{Seq: k + 1, Sku: sku, Loc: loc, Delta: 1 + k, Kind: api.OpReceive})
	}
	return l
}

// TestTb4Full: ledgers of as many rows as may be have their tables, one made of another too, of which no stock stays.
func TestTb4Full(t *testing.T) {
	a, b := crowded("a", api.MaxRows), crowded("b", api.MaxRows)
	s := setOf(t, a)
	setIs(t, "full", s, a)
	setIs(t, "full of others", next(t, s, b), b)
	less := crowded("a", api.MaxRows-1)
	setIs(t, "almost full", next(t, s, less), less)
	setIs(t, "of nothing", next(t, s, api.Ledger{}), api.Ledger{})
	setIs(t, "full, behind that", s, a)
	refuses(t, "full", named(t, "full", s, "stock"), row(text("new"), text("new"), number(0), number(0)), api.ErrFull)
	if _, e := s.Next(crowded("a", api.MaxRows+1)); e != api.ErrArg {
		t.Error(e)
	}
}
