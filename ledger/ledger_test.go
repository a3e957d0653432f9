package ledger_test

import (
	"math/big"
	"slices"
	"testing"

	"quayside/api"
	"quayside/ledger"
)

// TestExample: the chapter's.
func TestExample(t *testing.T) {
	l := behind(t, receive("s", "x", 5), hold("s", "x", 3, 0))
	if n := ledger.Free(l, "s", "x"); n != 2 {
		t.Errorf("%d are free, want 2", n)
	}
	refuses(t, l, hold("s", "x", 3, 0), api.ErrStock)
	l = behindThat(t, l, commit(1))
	if s := ledger.Find(l, "s", "x"); s != (api.Stock{Sku: "s", Loc: "x", OnHand: 2}) {
		t.Errorf("%+v, want 2 on hand, none held", s)
	}
}

// TestLe1Check: ledgers that may be.
func TestLe1Check(t *testing.T) {
	checks(t, "the empty ledger", api.Ledger{}, true)
	checks(t, "empty lists", api.Ledger{Stocks: []api.Stock{}, Holds: []api.Hold{}, Moves: []api.Move{}}, true)
	checks(t, "a plain one", plain(), true)
	for what, bend := range map[string]func(l *api.Ledger){
		"Ops 0":                         func(l *api.Ledger) { l.Ops = 0 },
		"Ops, the greatest number":      func(l *api.Ledger) { l.Ops = api.MaxInt },
		"a sku of 64 bytes":             func(l *api.Ledger) { l.Stocks[3].Sku = long(64) },
		"a place of 64 bytes":           func(l *api.Ledger) { l.Stocks[3].Loc = long(64) },
		"a sku that is no letters":      func(l *api.Ledger) { l.Stocks[3].Sku = "\xff\x00\n" },
		"skus as bytes":                 func(l *api.Ledger) { l.Stocks[3].Sku = "b\x00" },
		"a place behind, a sku that is": func(l *api.Ledger) { l.Stocks[3] = api.Stock{Sku: "b", Loc: "x\x00"} },
		"a stock more":                  func(l *api.Ledger) { l.Stocks = append(l.Stocks, api.Stock{Sku: "d", Loc: "a"}) },
		"all that are there are held": func(l *api.Ledger) {
			l.Holds[0].Qty, l.Stocks[0].Held = 5, 5
		},
		"a hold that is up, of no stock": func(l *api.Ledger) { l.Holds[3].Sku = "none" },
		"a hold that is out, of no such": func(l *api.Ledger) { l.Holds[1].Loc = long(64) },
		"Due of the greatest number":     func(l *api.Ledger) { l.Holds[0].Due = api.MaxInt },
		"a movement of a hold that is not there": func(l *api.Ledger) {
			l.Moves[2].Hold = api.MaxInt
		},
		"a sum that is beyond the bounds between": func(l *api.Ledger) {
			l.Stocks[3].OnHand = 7
			l.Moves = append(l.Moves, moved(8, "c", "z", api.MaxInt, api.OpReceive, 0), moved(9, "c", "z", api.MaxInt, api.OpReceive, 0), moved(10, "c", "z", -api.MaxInt, api.OpAdjust, 0), moved(11, "c", "z", 7, api.OpAdjust, 0), moved(12, "c", "z", -api.MaxInt, api.OpTransfer, 0))
		},
		"the greatest number": func(l *api.Ledger) {
			l.Stocks[3].OnHand, l.Stocks[3].Held = api.MaxInt, api.MaxInt
			l.Moves = append(l.Moves, moved(8, "c", "z", api.MaxInt, api.OpAdjust, 0))
			l.Holds = append(l.Holds, kept(6, "c", "z", api.MaxInt-1, api.HoldActive, 0), kept(7, "c", "z", 1, api.HoldActive, 0))
		},
		"the least number moved": func(l *api.Ledger) {
			l.Moves = append(l.Moves, moved(8, "c", "z", api.MinInt, api.OpAdjust, 0), moved(9, "c", "z", api.MaxInt, api.OpAdjust, 0), moved(10, "c", "z", 1, api.OpAdjust, 0))
		},
	} {
		l := plain()
		bend(&l)
		checks(t, what, l, true)
	}
}

// TestLe1CheckStocks: Ops and stocks that may not be, all else as it may be where that can be.
func TestLe1CheckStocks(t *testing.T) {
	refused(t, map[string]func(l *api.Ledger){
		"Ops below 0":            func(l *api.Ledger) { l.Ops = -1 },
		"Ops, the least number":  func(l *api.Ledger) { l.Ops = api.MinInt },
		"skus that fall":         func(l *api.Ledger) { l.Stocks[2], l.Stocks[3] = l.Stocks[3], l.Stocks[2] },
		"places that fall":       func(l *api.Ledger) { l.Stocks[0], l.Stocks[1] = l.Stocks[1], l.Stocks[0] },
		"a stock twice":          func(l *api.Ledger) { l.Stocks = append(l.Stocks, l.Stocks[3]) },
		"a stock twice, numbers": func(l *api.Ledger) { l.Stocks = slices.Insert(l.Stocks, 1, l.Stocks[0]) },
		"capitals behind":        func(l *api.Ledger) { l.Stocks[3].Sku = "C" },
		"no sku":                 func(l *api.Ledger) { l.Stocks = slices.Insert(l.Stocks, 0, api.Stock{Loc: "x"}) },
		"no place":               func(l *api.Ledger) { l.Stocks[3].Loc = "" },
		"a sku of 65 bytes":      func(l *api.Ledger) { l.Stocks[3].Sku = long(65) },
		"a place of 65 bytes":    func(l *api.Ledger) { l.Stocks[3].Loc = long(65) },
		"Held below 0":           func(l *api.Ledger) { l.Stocks[3].Held = -1 },
		"Held the least":         func(l *api.Ledger) { l.Stocks[3].Held = api.MinInt },
		"OnHand below 0": func(l *api.Ledger) {
			l.Stocks[3].OnHand = -1
			l.Moves = append(l.Moves, moved(8, "c", "z", -1, api.OpAdjust, 0))
		},
		"both below 0": func(l *api.Ledger) {
			l.Stocks[3].OnHand, l.Stocks[3].Held = -1, -1
			l.Moves = append(l.Moves, moved(8, "c", "z", -1, api.OpAdjust, 0))
		},
		"Held above OnHand":  func(l *api.Ledger) { l.Stocks[0].Held, l.Holds[0].Qty = 6, 6 },
		"Held of no holds":   func(l *api.Ledger) { l.Stocks[1].Held = 2 },
		"Held one more":      func(l *api.Ledger) { l.Stocks[0].Held++ },
		"Held one less":      func(l *api.Ledger) { l.Stocks[0].Held-- },
		"OnHand one more":    func(l *api.Ledger) { l.Stocks[0].OnHand++ },
		"OnHand one less":    func(l *api.Ledger) { l.Stocks[0].OnHand-- },
		"OnHand from 0":      func(l *api.Ledger) { l.Stocks[3].OnHand = 1 },
		"OnHand of another":  func(l *api.Ledger) { l.Stocks[0].OnHand, l.Stocks[1].OnHand = 4, 5 },
		"no stock of a move": func(l *api.Ledger) { l.Stocks = slices.Delete(l.Stocks, 1, 2) },
		"Held that wraps round": func(l *api.Ledger) {
			l.Stocks[1].Held = 2
			l.Holds = append(l.Holds, kept(6, "a", "y", api.MaxInt, 0, 0), kept(7, "a", "y", api.MaxInt, 0, 0), kept(8, "a", "y", 4, 0, 0))
		},
		"OnHand that wraps round": func(l *api.Ledger) {
			l.Stocks[3].OnHand = 2
			l.Moves = append(l.Moves, moved(8, "c", "z", api.MaxInt, api.OpReceive, 0), moved(9, "c", "z", api.MaxInt, api.OpReceive, 0), moved(10, "c", "z", 4, api.OpReceive, 0))
		},
		"OnHand that is 0 as there is no sum": func(l *api.Ledger) {
			l.Moves = append(l.Moves, moved(8, "c", "z", api.MaxInt, api.OpReceive, 0), moved(9, "c", "z", 1, api.OpReceive, 0))
		},
	})
}

// TestLe1CheckHolds: holds that may not be.
func TestLe1CheckHolds(t *testing.T) {
	refused(t, map[string]func(l *api.Ledger){
		"Ids from 0": func(l *api.Ledger) {
			for k := range l.Holds {
				l.Holds[k].Id--
			}
		},
		"an Id twice":           func(l *api.Ledger) { l.Holds[1].Id = 1 },
		"an Id left out":        func(l *api.Ledger) { l.Holds[4].Id = 6 },
		"Ids that fall":         func(l *api.Ledger) { l.Holds[0].Id, l.Holds[1].Id = 2, 1 },
		"a hold left out":       func(l *api.Ledger) { l.Holds = slices.Delete(l.Holds, 1, 2) },
		"no sku":                func(l *api.Ledger) { l.Holds[1].Sku = "" },
		"no place":              func(l *api.Ledger) { l.Holds[1].Loc = "" },
		"a sku of 65 bytes":     func(l *api.Ledger) { l.Holds[3].Sku = long(65) },
		"a place of 65 bytes":   func(l *api.Ledger) { l.Holds[3].Loc = long(65) },
		"Qty 0":                 func(l *api.Ledger) { l.Holds[1].Qty = 0 },
		"Qty 0 of an active":    func(l *api.Ledger) { l.Holds = append(l.Holds, kept(6, "a", "y", 0, 0, 0)) },
		"Qty below 0":           func(l *api.Ledger) { l.Holds[1].Qty = -2 },
		"Qty that makes up":     func(l *api.Ledger) { l.Holds[2].Qty, l.Holds[4].Qty = 5, -1 },
		"a State below":         func(l *api.Ledger) { l.Holds[1].State = -1 },
		"a State above":         func(l *api.Ledger) { l.Holds[1].State = 3 },
		"Due below 0":           func(l *api.Ledger) { l.Holds[0].Due = -1 },
		"Due below 0, over":     func(l *api.Ledger) { l.Holds[3].Due = api.MinInt },
		"active of no stock":    func(l *api.Ledger) { l.Holds = append(l.Holds, kept(6, "a", "z", 1, 0, 0)) },
		"active of no such sku": func(l *api.Ledger) { l.Holds = append(l.Holds, kept(6, "d", "x", 1, 0, 0)) },
		"one more that is active": func(l *api.Ledger) {
			l.Holds = append(l.Holds, kept(6, "a", "x", 1, 0, 0))
		},
		"one that is not active any more": func(l *api.Ledger) { l.Holds[2].State = api.HoldUp },
		"one that is active anew":         func(l *api.Ledger) { l.Holds[1].State = api.HoldActive },
		"one of another place":            func(l *api.Ledger) { l.Holds[0].Loc = "y" },
	})
}

// TestLe1CheckMoves: movements that may not be.
func TestLe1CheckMoves(t *testing.T) {
	bends := map[string]func(l *api.Ledger){
		"Seqs from 0": func(l *api.Ledger) {
			for k := range l.Moves {
				l.Moves[k].Seq--
			}
		},
		"a Seq twice":         func(l *api.Ledger) { l.Moves[1].Seq = 1 },
		"a Seq left out":      func(l *api.Ledger) { l.Moves[6].Seq = 8 },
		"Seqs that fall":      func(l *api.Ledger) { l.Moves[0].Seq, l.Moves[1].Seq = 2, 1 },
		"no sku":              func(l *api.Ledger) { l.Moves[0].Sku = "" },
		"no place":            func(l *api.Ledger) { l.Moves[0].Loc = "" },
		"a place of 65 bytes": func(l *api.Ledger) { l.Moves[0].Loc = long(65) },
		"a sku of 65 bytes":   func(l *api.Ledger) { l.Moves[0].Sku = long(65) },
		"Delta 0":             func(l *api.Ledger) { l.Moves = append(l.Moves, moved(8, "a", "x", 0, api.OpAdjust, 0)) },
		"another Delta":       func(l *api.Ledger) { l.Moves[0].Delta++ },
		"Hold below 0":        func(l *api.Ledger) { l.Moves[2].Hold = -1 },
		"Hold the least":      func(l *api.Ledger) { l.Moves[2].Hold = api.MinInt },
		"Hold 0 of a commit":  func(l *api.Ledger) { l.Moves[2].Hold = 0 },
		"Hold of a receive":   func(l *api.Ledger) { l.Moves[0].Hold = 1 },
		"Hold of an adjust":   func(l *api.Ledger) { l.Moves[4].Hold = 1 },
		"Hold of a transfer":  func(l *api.Ledger) { l.Moves[6].Hold = 1 },
		"Hold below 0, other": func(l *api.Ledger) { l.Moves[6].Hold = -1 },
		"of no stock": func(l *api.Ledger) {
			l.Moves = append(l.Moves, moved(8, "a", "z", 1, api.OpAdjust, 0), moved(9, "a", "z", -1, api.OpAdjust, 0))
		},
		"of another place": func(l *api.Ledger) { l.Moves[0].Loc = "y" },
	}
	refused(t, bends)
	for _, kind := range []int{api.MinInt, -1, 0, api.OpHold, api.OpRelease, api.OpExpire, 8, api.MaxInt} {
		l := plain()
		l.Moves[0].Kind = kind
		checks(t, "a kind that no movement has", l, false)
		l.Moves[0].Hold = 1
		checks(t, "such a kind, and a hold", l, false)
	}
	for _, kind := range []int{api.OpReceive, api.OpTransfer, api.OpAdjust} {
		l := plain()
		l.Moves[0].Kind = kind
		checks(t, "a kind that movements have", l, true)
		l.Moves[0].Kind, l.Moves[0].Hold = api.OpCommit, 1
		checks(t, "a commit", l, true)
	}
}

// refused tells of bends that each of them makes a ledger that may not be, which no call takes.
func refused(t *testing.T, bends map[string]func(l *api.Ledger)) {
	t.Helper()
	for what, bend := range bends {
		l := plain()
		bend(&l)
		checks(t, what, l, false)
		for _, o := range []api.Op{receive("a", "x", 1), hold("a", "x", 9, 0), commit(9), expire(0), {}} {
			refuses(t, l, o, api.ErrArg)
		}
		for _, ops := range [][]api.Op{nil, {expire(0)}, {{}}} {
			if got, n, e := ledger.Replay(l, ops); !sameLedger(got, api.Ledger{}) || n != 0 || e != api.ErrArg {
				t.Errorf("%s: Replay: %s, %d, error %d; want none, 0, error %d", what, short(got), n, e, api.ErrArg)
			}
		}
	}
}

// TestLe1CheckLists: lists of as many as there may be, and of one more.
func TestLe1CheckLists(t *testing.T) {
	for _, n := range []int{4095, 4096, 4097, 5000} {
		checks(t, "stocks", api.Ledger{Stocks: crowd(n)}, n <= 4096)
		checks(t, "holds", full(n, 1, 1), n <= 4096)
		checks(t, "holds of no stock", api.Ledger{Holds: past("s", "l", n)}, n <= 4096)
		checks(t, "movements", full(0, n, 5), n <= 4096)
		all := full(n, n, 5)
		all.Stocks = append(crowd(n-1), all.Stocks...)
		checks(t, "all of them", all, n <= 4096)
	}
}

// TestLe1CheckBent: of any ledger of which a field is another one Check says what the document says.
func TestLe1CheckBent(t *testing.T) {
	x, taken, refused := dice(7), 0, 0
	for range 300 {
		b := bookOf(api.Ledger{})
		for range 12 + x.below(20) {
			b.apply(x.op(len(b.holds)))
		}
		whole := b.ledger()
		checks(t, "a ledger of operations", whole, true)
		for range 60 {
			l := copied(whole)
			for range 1 + x.below(2) {
				x.bend(&l)
			}
			ok := mayBe(l)
			checks(t, "a bent ledger", l, ok)
			if ok {
				taken++
			} else {
				refused++
			}
		}
	}
	if taken < 1000 || refused < 1000 {
		t.Errorf("%d taken, %d refused: too few to tell", taken, refused)
	}
}

// TestLe1Find: the stock of a sku at a place, and how many of it are free.
func TestLe1Find(t *testing.T) {
	l := plain()
	for _, s := range l.Stocks {
		finds(t, l, s.Sku, s.Loc, s, s.OnHand-s.Held)
	}
	for _, p := range []place{{"a", "z"}, {"b", "y"}, {"c", "x"}, {"A", "x"}, {"x", "a"}, {"a", ""}, {"", "x"}, {"", ""}, {"ax", ""}, {long(65), long(99)}} {
		finds(t, l, p.sku, p.loc, api.Stock{Sku: p.sku, Loc: p.loc}, 0)
		finds(t, api.Ledger{}, p.sku, p.loc, api.Stock{Sku: p.sku, Loc: p.loc}, 0)
	}
	many := api.Ledger{Stocks: crowd(4096)}
	for _, s := range many.Stocks {
		finds(t, many, s.Sku, s.Loc, s, 0)
	}
}

// TestLe1FindOdd: of ledgers that may not be it is the first such stock.
func TestLe1FindOdd(t *testing.T) {
	l := api.Ledger{Ops: -1, Stocks: []api.Stock{
		stock("z", "z", 9, 4), stock("b", "x", 3, 7), stock("a", "y", 8, 2), stock("a", "x", -1, 2), stock("b", "x", 100, 0), stock("a", "y", 0, 0), stock("", "", 6, 5), stock(long(99), "x", 1, -1),
		stock("o", "1", api.MinInt, 1), stock("o", "2", api.MinInt, 0), stock("o", "3", api.MaxInt, -1), stock("o", "4", 0, api.MinInt), stock("o", "5", api.MinInt, api.MinInt), stock("o", "6", -1, api.MinInt), stock("o", "7", -2, api.MaxInt), stock("o", "8", -1, api.MaxInt),
	}}
	for _, c := range []struct{ at, free int }{{0, 5}, {1, -4}, {2, 6}, {3, -3}, {6, 1}, {7, 2}, {8, 0}, {9, api.MinInt}, {10, 0}, {11, 0}, {12, 0}, {13, api.MaxInt}, {14, 0}, {15, api.MinInt}} {
		s := l.Stocks[c.at]
		finds(t, l, s.Sku, s.Loc, s, c.free)
	}
	finds(t, l, "a", "z", api.Stock{Sku: "a", Loc: "z"}, 0)
}

func finds(t *testing.T, l api.Ledger, sku, loc string, want api.Stock, free int) {
	t.Helper()
	was := copied(l)
	if s := ledger.Find(l, sku, loc); s != want {
		t.Errorf("Find(%q, %q): %+v, want %+v", sku, loc, s, want)
	}
	if n := ledger.Free(l, sku, loc); n != free {
		t.Errorf("Free(%q, %q): %d, want %d", sku, loc, n, free)
	}
	if !sameLedger(l, was) {
		t.Error("the ledger is changed by being asked")
	}
}

// TestLe2Arg: operations that may not be, ahead of all that could be told of them besides.
func TestLe2Arg(t *testing.T) {
	full := full(4096, 4096, api.MaxInt)
	full.Ops = 1 << 62
	for _, l := range []api.Ledger{{}, plain(), full} {
		for _, o := range []api.Op{
			{}, {Kind: -1}, {Kind: 8}, {Kind: api.MaxInt}, receive("s", "l", 0), receive("", "l", 1), receive("s", long(65), 1), hold("s", "l", -1, 0), hold("s", "l", 1, -1), commit(0), commit(-1), release(0), release(api.MinInt), expire(-1),
			transfer("s", "l", "l", 1), transfer("s", "l", "", 1), transfer("s", "l", "m", 0), adjust("s", "l", 0), adjust("s", "", 1), {Kind: api.OpCommit, Id: 1, Qty: 1}, {Kind: api.OpExpire, Due: 1, Sku: "s"},
		} {
			refuses(t, l, o, api.ErrArg)
		}
	}
}

// TestLe2Receive: more are on hand; what is on hand stays a number.
func TestLe2Receive(t *testing.T) {
	applies(t, api.Ledger{}, receive("s", "l", 5), api.Ledger{Stocks: []api.Stock{stock("s", "l", 5, 0)}, Moves: []api.Move{moved(1, "s", "l", 5, api.OpReceive, 0)}, Ops: 1})
	want := plain()
	want.Stocks[0].OnHand = 14
	want.Moves, want.Ops = append(want.Moves, moved(8, "a", "x", 9, api.OpReceive, 0)), 13
	applies(t, plain(), receive("a", "x", 9), want)
	for _, qty := range []int{api.MaxInt - 5, api.MaxInt - 4, api.MaxInt} {
		if qty > api.MaxInt-5 {
			refuses(t, plain(), receive("a", "x", qty), api.ErrOver)
			continue
		}
		want.Stocks[0].OnHand, want.Moves[7].Delta = api.MaxInt, qty
		applies(t, plain(), receive("a", "x", qty), want)
	}
	long := long(64)
	applies(t, api.Ledger{}, receive(long, long, api.MaxInt), api.Ledger{Stocks: []api.Stock{stock(long, long, api.MaxInt, 0)}, Moves: []api.Move{moved(1, long, long, api.MaxInt, api.OpReceive, 0)}, Ops: 1})
}

// TestLe2Place: a stock that was not there comes to be in its place, ahead of, between and behind others, by bytes.
func TestLe2Place(t *testing.T) {
	places := []place{{"\x00", "x"}, {"A", "x"}, {"a", "w"}, {"a", "xx"}, {"a", "z"}, {"a", "\xff"}, {"a\x00", "a"}, {"aa", "a"}, {"ab", "x"}, {"b", "w"}, {"b", "x\x00"}, {"b", "y"}, {"bb", "x"}, {"c", "a"}, {"c", "zz"}, {"d", "a"}, {"\xff", "\x00"}}
	for _, p := range places {
		for _, o := range []api.Op{receive(p.sku, p.loc, 3), adjust(p.sku, p.loc, 3)} {
			want := plain()
			want.Stocks = append(want.Stocks, api.Stock{Sku: p.sku, Loc: p.loc, OnHand: 3})
			slices.SortFunc(want.Stocks, func(a, b api.Stock) int {
				return slices.Compare([]string{a.Sku, a.Loc}, []string{b.Sku, b.Loc})
			})
			want.Moves, want.Ops = append(want.Moves, moved(8, p.sku, p.loc, 3, o.Kind, 0)), 13
			applies(t, plain(), o, want)
		}
	}
	for _, to := range []string{"a", "w", "xx", "z"} {
		want := plain()
		k := 0
		if to > "x" {
			k = 1
		}
		if to > "y" {
			k = 2
		}
		want.Stocks[0].OnHand = 3
		want.Stocks = slices.Insert(want.Stocks, k, api.Stock{Sku: "a", Loc: to, OnHand: 2})
		want.Moves, want.Ops = append(want.Moves, moved(8, "a", "x", -2, api.OpTransfer, 0), moved(9, "a", to, 2, api.OpTransfer, 0)), 13
		applies(t, plain(), transfer("a", "x", to, 2), want)
	}
	var all api.Ledger
	for _, p := range slices.Concat(places[9:], places[:9]) {
		all = behindThat(t, all, receive(p.sku, p.loc, 1))
	}
	for k, p := range places {
		if all.Stocks[k].Sku != p.sku || all.Stocks[k].Loc != p.loc {
			t.Errorf("at %d stands %+v, want %+v", k, all.Stocks[k], p)
		}
	}
}

// TestLe2Hold: only what is free is held.
func TestLe2Hold(t *testing.T) {
	for _, c := range []struct{ qty, due int }{{1, 0}, {2, 7}, {2, api.MaxInt}} {
		want := plain()
		want.Stocks[0].Held += c.qty
		want.Holds, want.Ops = append(want.Holds, kept(6, "a", "x", c.qty, api.HoldActive, c.due)), 13
		applies(t, plain(), hold("a", "x", c.qty, c.due), want)
	}
	for _, o := range []api.Op{hold("a", "x", 3, 0), hold("a", "x", api.MaxInt, 0), hold("b", "x", 1, 0), hold("c", "z", 1, 0), hold("a", "z", 1, 0), hold("d", "x", 1, 1)} {
		refuses(t, plain(), o, api.ErrStock)
	}
	most := behind(t, receive("s", "l", api.MaxInt), hold("s", "l", api.MaxInt, 0))
	checks(t, "the greatest number is held", most, true)
	refuses(t, most, hold("s", "l", 1, 0), api.ErrStock)
}

// TestLe2Commit: what was held goes out, once.
func TestLe2Commit(t *testing.T) {
	want := plain()
	want.Stocks[2] = api.Stock{Sku: "b", Loc: "x", OnHand: 1, Held: 1}
	want.Holds[4].State = api.HoldOut
	want.Moves, want.Ops = append(want.Moves, moved(8, "b", "x", -3, api.OpCommit, 5)), 13
	applies(t, plain(), commit(5), want)
	refuses(t, want, commit(5), api.ErrHold)
	refuses(t, want, release(5), api.ErrHold)
	most := behind(t, receive("s", "l", api.MaxInt), hold("s", "l", api.MaxInt, 3), commit(1))
	if most.Stocks[0] != (api.Stock{Sku: "s", Loc: "l"}) || most.Moves[1] != moved(2, "s", "l", -api.MaxInt, api.OpCommit, 1) || most.Holds[0] != kept(1, "s", "l", api.MaxInt, api.HoldOut, 3) {
		t.Errorf("all of the greatest number go out: %+v", most)
	}
}

// TestLe2Release: what was held is free again, once.
func TestLe2Release(t *testing.T) {
	want := plain()
	want.Stocks[2].Held = 3
	want.Holds[2].State, want.Ops = api.HoldUp, 13
	applies(t, plain(), release(3), want)
	refuses(t, want, release(3), api.ErrHold)
	refuses(t, want, commit(3), api.ErrHold)
	for _, id := range []int{2, 4, 6, 7, api.MaxInt} {
		refuses(t, plain(), commit(id), api.ErrHold)
		refuses(t, plain(), release(id), api.ErrHold)
		refuses(t, api.Ledger{}, commit(id), api.ErrHold)
	}
	refuses(t, api.Ledger{}, release(1), api.ErrHold)
}

// TestLe2Expire: holds that are due are given up; those for good, and those that are over, stay.
func TestLe2Expire(t *testing.T) {
	start := api.Ledger{
		Stocks: []api.Stock{stock("s", "l", 100, 51), stock("s", "m", 100, 20)},
		Holds: []api.Hold{
			kept(1, "s", "l", 1, api.HoldActive, 0), kept(2, "s", "l", 2, api.HoldActive, 1), kept(3, "s", "m", 4, api.HoldActive, 5), kept(4, "s", "l", 8, api.HoldActive, 6), kept(5, "s", "m", 16, api.HoldActive, 7),
			kept(6, "s", "l", 32, api.HoldOut, 5), kept(7, "s", "l", 64, api.HoldUp, 5), kept(8, "s", "l", 40, api.HoldActive, api.MaxInt),
		},
		Moves: []api.Move{moved(1, "s", "l", 100, api.OpReceive, 0), moved(2, "s", "m", 100, api.OpReceive, 0)},
		Ops:   3,
	}
	checks(t, "holds that are due", start, true)
	for _, c := range []struct{ due, last, l, m int }{{0, 0, 51, 20}, {1, 2, 49, 20}, {2, 2, 49, 20}, {4, 2, 49, 20}, {5, 3, 49, 16}, {6, 4, 41, 16}, {7, 5, 41, 0}, {api.MaxInt - 1, 5, 41, 0}, {api.MaxInt, 8, 1, 0}} {
		want := copied(start)
		for k := range want.Holds {
			if h := &want.Holds[k]; h.State == api.HoldActive && h.Due > 0 && h.Id <= c.last {
				h.State = api.HoldUp
			}
		}
		want.Stocks[0].Held, want.Stocks[1].Held, want.Ops = c.l, c.m, 4
		applies(t, start, expire(c.due), want)
	}
	for _, l := range []api.Ledger{{}, plain()} {
		want := copied(l)
		want.Ops++
		applies(t, l, expire(0), want)
		applies(t, l, expire(8), want)
	}
}

// TestLe2Transfer: what is free goes from one place to the other, in two movements.
func TestLe2Transfer(t *testing.T) {
	for _, c := range []struct {
		o        api.Op
		from, to int
	}{{transfer("a", "x", "y", 1), 0, 1}, {transfer("a", "x", "y", 2), 0, 1}, {transfer("a", "y", "x", 4), 1, 0}} {
		want := plain()
		want.Stocks[c.from].OnHand -= c.o.Qty
		want.Stocks[c.to].OnHand += c.o.Qty
		want.Moves, want.Ops = append(want.Moves, moved(8, "a", c.o.Loc, -c.o.Qty, api.OpTransfer, 0), moved(9, "a", c.o.To, c.o.Qty, api.OpTransfer, 0)), 13
		applies(t, plain(), c.o, want)
	}
	for _, o := range []api.Op{transfer("a", "x", "y", 3), transfer("a", "y", "x", 5), transfer("a", "z", "x", 1), transfer("b", "x", "y", 1), transfer("d", "x", "y", 1), transfer("a", "x", "q", api.MaxInt)} {
		refuses(t, plain(), o, api.ErrStock)
	}
	l := behind(t, receive("s", "l", 9), receive("s", "m", api.MaxInt-2), hold("s", "l", 4, 0))
	refuses(t, l, transfer("s", "l", "m", 3), api.ErrOver)
	refuses(t, l, transfer("s", "l", "m", 5), api.ErrOver)
	refuses(t, l, transfer("s", "l", "m", 6), api.ErrStock)
	most := behindThat(t, l, transfer("s", "l", "m", 2))
	if ledger.Find(most, "s", "m").OnHand != api.MaxInt || ledger.Find(most, "s", "l") != stock("s", "l", 7, 4) {
		t.Errorf("up to the greatest number: %+v", most.Stocks)
	}
	refuses(t, most, transfer("s", "l", "m", 1), api.ErrOver)
	all := behindThat(t, most, transfer("s", "m", "k", api.MaxInt))
	if ledger.Find(all, "s", "k").OnHand != api.MaxInt || ledger.Find(all, "s", "m").OnHand != 0 || len(all.Stocks) != 3 {
		t.Errorf("all of the greatest number: %+v", all.Stocks)
	}
}

// TestLe2Adjust: more or fewer are on hand, but no fewer than are held.
func TestLe2Adjust(t *testing.T) {
	for _, qty := range []int{3, 1, -1, -2, api.MaxInt - 5} {
		want := plain()
		want.Stocks[0].OnHand += qty
		want.Moves, want.Ops = append(want.Moves, moved(8, "a", "x", qty, api.OpAdjust, 0)), 13
		applies(t, plain(), adjust("a", "x", qty), want)
	}
	for _, qty := range []int{-3, -5, -6, api.MinInt, -api.MaxInt} {
		refuses(t, plain(), adjust("a", "x", qty), api.ErrStock)
	}
	for _, qty := range []int{api.MaxInt - 4, api.MaxInt} {
		refuses(t, plain(), adjust("a", "x", qty), api.ErrOver)
	}
	for _, o := range []api.Op{adjust("b", "x", -1), adjust("c", "z", -1), adjust("d", "x", -1), adjust("a", "z", api.MinInt)} {
		refuses(t, plain(), o, api.ErrStock)
	}
	applies(t, api.Ledger{}, adjust("s", "l", 4), api.Ledger{Stocks: []api.Stock{stock("s", "l", 4, 0)}, Moves: []api.Move{moved(1, "s", "l", 4, api.OpAdjust, 0)}, Ops: 1})
	none := behind(t, receive("s", "l", api.MaxInt), adjust("s", "l", -api.MaxInt))
	if len(none.Stocks) != 1 || none.Stocks[0] != (api.Stock{Sku: "s", Loc: "l"}) {
		t.Errorf("a stock of which none are left: %+v", none.Stocks)
	}
}

// takenOr tells that an operation is taken, as the book takes it, or refused by an error.
func takenOr(t *testing.T, l api.Ledger, o api.Op, want api.Errno) {
	t.Helper()
	if want != api.OK {
		refuses(t, l, o, want)
		return
	}
	b := bookOf(l)
	if e := b.apply(o); e != api.OK {
		t.Errorf("%+v: the test's own words refuse it by %d", o, e)
	}
	next := b.ledger()
	got, e := ledger.Apply(l, o)
	if e != api.OK || !sameLedger(got, next) || ledger.Check(got) != api.OK {
		t.Errorf("%+v: error %d, or another ledger than it should be", o, e)
	}
}

// TestLe2FullStocks: no stock more than 4096 comes to be.
func TestLe2FullStocks(t *testing.T) {
	for n, want := range map[int]api.Errno{4094: api.OK, 4095: api.OK, 4096: api.ErrFull} {
		l := api.Ledger{Stocks: append(crowd(n-1), stock("s", "l", 5, 0)), Moves: []api.Move{moved(1, "s", "l", 5, api.OpReceive, 0)}}
		checks(t, "a crowd", l, true)
		for _, o := range []api.Op{receive("s", "m", 1), receive("0", "m", 1), transfer("s", "l", "k", 5), adjust("s", "m", 1), adjust("0007", "q", 1)} {
			takenOr(t, l, o, want)
		}
		for _, o := range []api.Op{receive("s", "l", 1), receive("0007", "loc1", 1), adjust("s", "l", -5), hold("s", "l", 5, 1), expire(3)} {
			takenOr(t, l, o, api.OK)
		}
		refuses(t, l, transfer("s", "l", "m", 6), api.ErrStock)
		refuses(t, l, hold("s", "m", 1, 0), api.ErrStock)
		refuses(t, l, adjust("s", "m", -1), api.ErrStock)
	}
}

// TestLe2FullMoves: no movement more than 4096 is told; operations without one are still taken.
func TestLe2FullMoves(t *testing.T) {
	for n, want := range map[int][2]api.Errno{4093: {}, 4094: {}, 4095: {api.OK, api.ErrFull}, 4096: {api.ErrFull, api.ErrFull}} {
		l := full(2, n, 9)
		checks(t, "many movements", l, true)
		for _, o := range []api.Op{receive("s", "l", 1), receive("s", "m", 1), commit(1), adjust("s", "l", -1), adjust("s", "m", 1)} {
			takenOr(t, l, o, want[0])
		}
		takenOr(t, l, transfer("s", "l", "m", 8), want[1])
		for _, o := range []api.Op{hold("s", "l", 8, 0), release(1), expire(0), expire(9)} {
			takenOr(t, l, o, api.OK)
		}
		refuses(t, l, receive("s", "l", api.MaxInt), api.ErrOver)
		refuses(t, l, adjust("s", "l", api.MaxInt), api.ErrOver)
		refuses(t, l, adjust("s", "l", -9), api.ErrStock)
		refuses(t, l, transfer("s", "l", "m", 9), api.ErrStock)
		refuses(t, l, commit(2), api.ErrHold)
		refuses(t, l, commit(3), api.ErrHold)
		most := full(0, n-1, api.MaxInt)
		most.Stocks = append(most.Stocks, stock("s", "m", 1, 0))
		most.Moves = append(most.Moves, moved(n, "s", "m", 1, api.OpReceive, 0))
		checks(t, "the greatest number, many movements", most, true)
		refuses(t, most, transfer("s", "m", "l", 1), api.ErrOver)
		refuses(t, most, transfer("s", "m", "l", 2), api.ErrStock)
	}
}

// TestLe2FullHolds: no hold more than 4096 is told.
func TestLe2FullHolds(t *testing.T) {
	for n, want := range map[int]api.Errno{4094: api.OK, 4095: api.OK, 4096: api.ErrFull} {
		l := full(n, 3, 9)
		takenOr(t, l, hold("s", "l", 1, 0), want)
		takenOr(t, l, hold("s", "l", 8, 5), want)
		refuses(t, l, hold("s", "l", 9, 0), api.ErrStock)
		refuses(t, l, hold("s", "m", 1, 0), api.ErrStock)
		for _, o := range []api.Op{receive("s", "m", 1), commit(1), release(1), expire(api.MaxInt), transfer("s", "l", "m", 8), adjust("s", "l", -8)} {
			takenOr(t, l, o, api.OK)
		}
	}
}

// TestLe2Ops: 2^62 operations are all that a ledger takes; other errors stand ahead of that.
func TestLe2Ops(t *testing.T) {
	ops := []api.Op{receive("a", "x", 1), hold("a", "x", 1, 0), commit(1), release(1), expire(0), expire(9), transfer("a", "x", "y", 1), adjust("a", "x", -1)}
	for n, want := range map[int]api.Errno{0: api.OK, 1<<62 - 2: api.OK, 1<<62 - 1: api.OK, 1 << 62: api.ErrFull, 1<<62 + 1: api.ErrFull, api.MaxInt: api.ErrFull} {
		l := plain()
		l.Ops = n
		for _, o := range ops {
			takenOr(t, l, o, want)
		}
		refuses(t, l, receive("a", "x", api.MaxInt), api.ErrOver)
		refuses(t, l, hold("a", "x", 3, 0), api.ErrStock)
		refuses(t, l, commit(2), api.ErrHold)
		refuses(t, l, release(6), api.ErrHold)
		refuses(t, l, transfer("a", "x", "y", 3), api.ErrStock)
		refuses(t, l, adjust("a", "x", -3), api.ErrStock)
	}
	l := api.Ledger{Ops: 1<<62 - 1}
	if got, n, e := ledger.Replay(l, []api.Op{expire(0), expire(0)}); got.Ops != 1<<62 || n != 1 || e != api.ErrFull {
		t.Errorf("two more of which one has room: Ops %d, %d, error %d", got.Ops, n, e)
	}
}

func replays(t *testing.T, l api.Ledger, ops []api.Op, want api.Ledger, count int, why api.Errno) {
	t.Helper()
	was, opsWere := copied(l), slices.Clone(ops)
	got, n, e := ledger.Replay(l, ops)
	if !sameLedger(got, want) || n != count || e != why {
		t.Errorf("Replay: %s, %d, error %d; want %s, %d, error %d", short(got), n, e, short(want), count, why)
	}
	if !sameLedger(l, was) || !slices.Equal(ops, opsWere) {
		t.Errorf("Replay changed what it was given: %s, was %s", short(l), short(was))
	}
}

// TestLe3: operations one behind the other, up to the first one that is refused.
func TestLe3(t *testing.T) {
	replays(t, api.Ledger{}, nil, api.Ledger{}, 0, api.OK)
	replays(t, plain(), nil, plain(), 0, api.OK)
	replays(t, plain(), []api.Op{}, plain(), 0, api.OK)
	taken := []api.Op{receive("a", "x", 4), hold("a", "x", 6, 3), transfer("b", "x", "q", 1), release(5), transfer("b", "x", "q", 3), expire(3), commit(1), adjust("n", "n", 2), expire(0)}
	for n := range taken {
		l, why := plain(), api.OK
		for _, o := range taken[:n] {
			next, e := ledger.Apply(l, o)
			if e != api.OK {
				why = e
				break
			}
			l = next
		}
		if n <= 2 != (why == api.OK) {
			t.Fatalf("of %d operations one is refused by %d", n, why)
		}
		replays(t, plain(), taken[:n], l, min(n, 2), why)
	}
	taken = slices.Delete(taken, 2, 3)
	end := behindThat(t, plain(), taken...)
	replays(t, plain(), taken, end, len(taken), api.OK)
	for why, o := range map[api.Errno]api.Op{api.ErrArg: {}, api.ErrOver: receive("n", "n", api.MaxInt), api.ErrStock: hold("n", "n", 3, 0), api.ErrHold: commit(1)} {
		replays(t, plain(), append(slices.Clone(taken), o, expire(0), api.Op{}), end, len(taken), why)
		replays(t, end, []api.Op{o}, end, 0, why)
	}
	many := full(0, 4095, 1)
	replays(t, many, []api.Op{receive("s", "l", 1), expire(0), receive("s", "l", 1)}, behindThat(t, many, receive("s", "l", 1), expire(0)), 2, api.ErrFull)
}

// TestLe3Long: as many operations as lists have room for.
func TestLe3Long(t *testing.T) {
	var ops []api.Op
	for range 4096 {
		ops = append(ops, receive("s", "l", 3))
	}
	for range 4096 {
		ops = append(ops, hold("s", "l", 3, 1))
	}
	ops = append(ops, expire(1), expire(1), release(4096))
	l, n, e := ledger.Replay(api.Ledger{}, ops)
	if n != 8194 || e != api.ErrHold || l.Ops != 8194 || len(l.Stocks) != 1 || l.Stocks[0] != stock("s", "l", 3*4096, 0) || len(l.Holds) != 4096 || len(l.Moves) != 4096 || !mayBe(l) {
		t.Errorf("%d done, error %d, stocks %+v", n, e, l.Stocks)
	}
}

// TestLe4: over long runs of any operations the ledger is what the document says, one that may be; what is refused changes nothing; nothing is lost.
func TestLe4(t *testing.T) {
	why := map[api.Errno]int{}
	for run := range 60 {
		x := dice(run + 1)
		var l api.Ledger
		if run%3 == 0 {
			l = plain()
		}
		b := bookOf(l)
		for range 150 {
			o := x.op(len(b.holds))
			want := b.apply(o)
			why[want]++
			next, e := ledger.Apply(l, o)
			if e != want {
				t.Fatalf("run %d: %+v: error %d, want %d, at %s", run, o, e, want, short(l))
			}
			if e != api.OK {
				refuses(t, l, o, e)
				continue
			}
			keeps(t, l, next, o)
			l = next
			if !sameLedger(l, b.ledger()) || ledger.Check(l) != api.OK || !mayBe(l) {
				t.Fatalf("run %d: behind %+v: %s, want %s", run, o, short(l), short(b.ledger()))
			}
		}
	}
	for _, e := range []api.Errno{api.OK, api.ErrArg, api.ErrOver, api.ErrStock, api.ErrHold} {
		if why[e] < 50 {
			t.Errorf("error %d came %d times: too few to tell", e, why[e])
		}
	}
}

// keeps tells that all that is on hand is as much more as the operation brought, and that nothing that was told is told otherwise.
func keeps(t *testing.T, l, next api.Ledger, o api.Op) {
	t.Helper()
	brought := 0
	switch o.Kind {
	case api.OpReceive, api.OpAdjust:
		brought = o.Qty
	case api.OpCommit:
		brought = -l.Holds[o.Id-1].Qty
	}
	if new(big.Int).Sub(inAll(next), inAll(l)).Cmp(big.NewInt(int64(brought))) != 0 {
		t.Errorf("%+v: from %v in all to %v", o, inAll(l), inAll(next))
	}
	if len(next.Stocks) < len(l.Stocks) || len(next.Holds) < len(l.Holds) || len(next.Moves) < len(l.Moves) || !slices.Equal(next.Moves[:len(l.Moves)], l.Moves) {
		t.Errorf("%+v: from %s to %s", o, short(l), short(next))
	}
	for k, h := range l.Holds {
		if h.State = next.Holds[k].State; h != next.Holds[k] || l.Holds[k].State != api.HoldActive && l.Holds[k].State != h.State {
			t.Errorf("%+v: the hold %+v is %+v", o, l.Holds[k], next.Holds[k])
		}
	}
}

func inAll(l api.Ledger) *big.Int {
	sum := new(big.Int)
	for _, s := range l.Stocks {
		sum.Add(sum, big.NewInt(int64(s.OnHand)))
	}
	return sum
}

// TestLe4Replay: replayed in parts, or in all, the same operations lead to the same ledger.
func TestLe4Replay(t *testing.T) {
	for run := range 40 {
		x := dice(run + 100)
		b := bookOf(api.Ledger{})
		var ops []api.Op
		for range 120 {
			if o := x.op(len(b.holds)); b.apply(o) == api.OK {
				ops = append(ops, o)
			}
		}
		replays(t, api.Ledger{}, ops, b.ledger(), len(ops), api.OK)
		cut := x.below(len(ops))
		first, _, _ := ledger.Replay(api.Ledger{}, ops[:cut])
		replays(t, first, ops[cut:], b.ledger(), len(ops)-cut, api.OK)
		replays(t, api.Ledger{}, slices.Insert(slices.Clone(ops), cut, api.Op{}), first, cut, api.ErrArg)
	}
}
