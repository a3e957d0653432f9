package keep_test

import (
	"slices"
	"strings"
	"testing"

	"quayside/api"
	"quayside/keep"
)

func hasRecords(t *testing.T, what string, l api.Ledger, want ...string) {
	t.Helper()
	if got, e := keep.Records(l); e != api.OK || !slices.Equal(got, want) {
		t.Errorf("%s: Records: %q, error %d, want %q", what, got, e, want)
	}
}

// TestKe1RecordsEmpty: of an empty ledger there is the last record alone, written out byte by byte.
func TestKe1RecordsEmpty(t *testing.T) {
	hasRecords(t, "empty", api.Ledger{}, "E\x01\x01\x80\x00\x00\x00\x00\x00\x00\x00")
	hasRecords(t, "empty lists", api.Ledger{Stocks: []api.Stock{}, Holds: []api.Hold{}, Moves: []api.Move{}}, "E\x01\x01\x80\x00\x00\x00\x00\x00\x00\x00")
	hasRecords(t, "operations that left nothing", api.Ledger{Ops: 258}, "E\x01\x01\x80\x00\x00\x00\x00\x00\x01\x02")
	hasRecords(t, "as many operations as there may be", api.Ledger{Ops: api.MaxInt}, "E\x01\x01\xff\xff\xff\xff\xff\xff\xff\xff")
}

// TestKe1Records: stocks, holds and movements, in their order, with their letters, and the operations behind them.
func TestKe1Records(t *testing.T) {
	l := api.Ledger{
		Stocks: []api.Stock{{Sku: "a", Loc: "x", OnHand: 3}, {Sku: "b", Loc: "w", OnHand: 5, Held: 2}},
		Holds:  []api.Hold{{Id: 1, Sku: "a", Loc: "x", Qty: 4, State: api.HoldOut, Due: 9}, {Id: 2, Sku: "b", Loc: "w", Qty: 2}, {Id: 3, Sku: "b", Loc: "w", Qty: 1, State: api.HoldUp}},
		Moves: []api.Move{{Seq: 1, Sku: "b", Loc: "w", Delta: 5, Kind: api.OpReceive}, {Seq: 2, Sku: "a", Loc: "x", Delta: 8, Kind: api.OpTransfer},
			{Seq: 3, Sku: "a", Loc: "x", Delta: -4, Kind: api.OpCommit, Hold: 1}, {Seq: 4, Sku: "a", Loc: "x", Delta: -1, Kind: api.OpAdjust}},
		Ops: 77,
	}
	hasRecords(t, "of each kind", l,
		"S"+row(text("a"), text("x"), number(3), number(0)),
		"S"+row(text("b"), text("w"), number(5), number(2)),
		"H"+row(number(1), text("a"), text("x"), number(4), text("out"), number(9)),
		"H"+row(number(2), text("b"), text("w"), number(2), text("active"), "\x00"),
		"H"+row(number(3), text("b"), text("w"), number(1), text("up"), "\x00"),
		"M"+row(number(1), text("b"), text("w"), number(5), text("receive"), "\x00"),
		"M"+row(number(2), text("a"), text("x"), number(8), text("transfer"), "\x00"),
		"M"+row(number(3), text("a"), text("x"), number(-4), text("commit"), number(1)),
		"M"+row(number(4), text("a"), text("x"), number(-1), text("adjust"), "\x00"),
		"E"+row(number(77)))
	hasRecords(t, "busy", busy(t), recordsOf(busy(t))...)
	name := strings.Repeat("n", 64)
	hasRecords(t, "long names, a great number", behind(t, api.Ledger{}, receive(name, name, api.MaxInt)),
		"S\x04\x02\x40"+name+"\x02\x40"+name+"\x01\xff\xff\xff\xff\xff\xff\xff\xff\x01\x80\x00\x00\x00\x00\x00\x00\x00",
		"M"+row(number(1), text(name), text(name), number(api.MaxInt), text("receive"), "\x00"), endRecord(1))
}

// TestKe1RecordsMany: as many records as a ledger may have, and one more of a list.
func TestKe1RecordsMany(t *testing.T) {
	l := api.Ledger{Stocks: []api.Stock{{Sku: "s", Loc: "x"}}}
	for k := range 4096 {
		l.Holds = append(l.Holds, api.Hold{Id: k + 1, Sku: "s", Loc: "x", Qty: 1, State: api.HoldUp})
		l.Moves = append(l.Moves, api.Move{Seq: k + 1, Sku: "s", Loc: "x", Delta: 1 - k%2*2, Kind: api.OpAdjust})
	}
	hasRecords(t, "4096 of each", l, recordsOf(l)...)
	l.Holds = append(l.Holds, api.Hold{Id: 4097, Sku: "s", Loc: "x", Qty: 1, State: api.HoldUp})
	refusesRecords(t, "4097 holds", l)
}

func refusesRecords(t *testing.T, what string, l api.Ledger) {
	t.Helper()
	if got, e := keep.Records(l); len(got) != 0 || e != api.ErrArg {
		t.Errorf("%s: Records: %q, error %d, want none, error %d", what, got, e, api.ErrArg)
	}
}

// bent are ledgers that may not be, by what is wrong with them.
func bent(t *testing.T) map[string]api.Ledger {
	t.Helper()
	out := map[string]api.Ledger{}
	bend := func(what string, change func(l *api.Ledger)) {
		l := busy(t)
		change(&l)
		out[what] = l
	}
	bend("fewer than no operations", func(l *api.Ledger) { l.Ops = -1 })
	bend("stocks that fall", func(l *api.Ledger) { slices.Reverse(l.Stocks) })
	bend("a stock without a name", func(l *api.Ledger) { l.Stocks[0].Sku = "" })
	bend("a stock with more on hand than came", func(l *api.Ledger) { l.Stocks[0].OnHand++ })
	bend("a stock with more held than by holds", func(l *api.Ledger) { l.Stocks[1].Held++ })
	bend("a hold of another Id", func(l *api.Ledger) { l.Holds[1].Id = 9 })
	bend("a hold of nothing", func(l *api.Ledger) { l.Holds[0].Qty = 0 })
	bend("a hold that was due ahead of all", func(l *api.Ledger) { l.Holds[0].Due = -1 })
	bend("a movement of another Seq", func(l *api.Ledger) { l.Moves[0].Seq = 2 })
	bend("a movement of a hold that is of none", func(l *api.Ledger) { l.Moves[0].Hold = 1 })
	bend("a movement of no stock", func(l *api.Ledger) { l.Moves[0].Loc = "nowhere" })
	return out
}

// TestKe1RecordsRefused: of a ledger that may not be there are none.
func TestKe1RecordsRefused(t *testing.T) {
	for what, l := range bent(t) {
		refusesRecords(t, what, l)
	}
	long := strings.Repeat("n", 65)
	refusesRecords(t, "a name that is too long", api.Ledger{Stocks: []api.Stock{{Sku: long, Loc: "x"}}})
	refusesRecords(t, "no such state", api.Ledger{Stocks: []api.Stock{{Sku: "s", Loc: "x"}}, Holds: []api.Hold{{Id: 1, Sku: "s", Loc: "x", Qty: 1, State: 3}}})
	refusesRecords(t, "no such kind", api.Ledger{Stocks: []api.Stock{{Sku: "s", Loc: "x", OnHand: 1}}, Moves: []api.Move{{Seq: 1, Sku: "s", Loc: "x", Delta: 1, Kind: api.OpHold}}})
}
