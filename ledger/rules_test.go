package ledger_test

import (
	"fmt"
	"slices"
	"testing"

	"quayside/api"
	"quayside/ledger"
)

// callAll is what every call of the layer answers at a ledger and operations.
func callAll(l api.Ledger, ops ...api.Op) string {
	told := fmt.Sprint(ledger.Check(l))
	for _, o := range ops {
		next, e := ledger.Apply(l, o)
		told += fmt.Sprintf(" %+v %d %+v %d %d", next, e, ledger.Find(l, o.Sku, o.Loc), ledger.Free(l, o.Sku, o.Loc), ledger.Free(l, o.Sku, o.To))
	}
	end, n, e := ledger.Replay(l, ops)
	return told + fmt.Sprintf(" %+v %d %d", end, n, e)
}

func oddOps() []api.Op {
	ops := []api.Op{{}, receive("a", "x", api.MaxInt), receive("a", "x", 1), hold("a", "x", 1, 1), hold("a", "x", api.MaxInt, api.MaxInt), commit(1), commit(api.MaxInt), release(5), expire(api.MaxInt), transfer("a", "x", "y", 1), transfer("a", "y", "w", 1), adjust("a", "x", api.MinInt), adjust("a", "x", -1)}
	for kind := -1; kind <= 8; kind++ {
		ops = append(ops, api.Op{Kind: kind, Sku: "\xff", Loc: "\x00", To: "\x00", Qty: -1, Id: -1, Due: -1}, api.Op{Kind: kind, Sku: long(65), Loc: long(1 << 16), Qty: api.MinInt, Id: api.MinInt, Due: api.MinInt}, api.Op{Kind: kind, Id: api.MaxInt, Due: api.MaxInt, Qty: api.MaxInt})
	}
	return ops
}

// oddLedgers are ledgers of every sort, most of which may not be.
func oddLedgers() []api.Ledger {
	most := api.Ledger{Ops: api.MaxInt, Stocks: []api.Stock{stock("a", "x", api.MaxInt, api.MinInt)}, Holds: []api.Hold{kept(api.MinInt, "a", "x", api.MinInt, api.MaxInt, api.MinInt)}, Moves: []api.Move{moved(api.MaxInt, "a", "x", api.MinInt, api.MaxInt, api.MinInt)}}
	least := api.Ledger{Ops: api.MinInt, Stocks: []api.Stock{stock("a", "x", api.MinInt, api.MaxInt)}}
	all := []api.Ledger{{}, plain(), most, least, {Stocks: make([]api.Stock, 9)}, {Holds: make([]api.Hold, 9)}, {Moves: make([]api.Move, 9)}, {Stocks: make([]api.Stock, 1<<16), Holds: make([]api.Hold, 1<<16), Moves: make([]api.Move, 1<<16)}}
	x := dice(3)
	for range 60 {
		l := plain()
		for range 1 + x.below(4) {
			x.bend(&l)
		}
		all = append(all, l)
	}
	return all
}

// TestR1: every call ends without a panic, at any ledgers and operations.
func TestR1(t *testing.T) {
	defer func() {
		if r := recover(); r != nil {
			t.Error("panic:", r)
		}
	}()
	for _, l := range oddLedgers() {
		callAll(l, oddOps()...)
		for _, o := range oddOps() {
			ledger.Replay(l, []api.Op{o, o})
		}
	}
}

// TestR2: beside an error there is nothing but what Replay tells; what is refused changes nothing for calls behind it.
func TestR2(t *testing.T) {
	for _, l := range oddLedgers() {
		was := callAll(l, oddOps()...)
		for _, o := range oddOps() {
			got, e := ledger.Apply(l, o)
			if e != api.OK && !sameLedger(got, api.Ledger{}) {
				t.Errorf("%.99v: beside the error %d there is %s", o, e, short(got))
			}
			got, n, e := ledger.Replay(l, []api.Op{o})
			if e != api.OK && (n != 0 || ledger.Check(l) == api.OK && !sameLedger(got, l) || ledger.Check(l) != api.OK && !sameLedger(got, api.Ledger{})) {
				t.Errorf("%.99v: beside the error %d there is %d, %s", o, e, n, short(got))
			}
		}
		if again := callAll(l, oddOps()...); again != was {
			t.Errorf("at %s: %.200s, then %.200s", short(l), was, again)
		}
	}
}

// roomy is a ledger whose lists have room behind them, in which there is something; and that room.
func roomy(l api.Ledger) (inside, whole api.Ledger) {
	whole = copied(l)
	whole.Stocks = append(whole.Stocks, stock("q", "q", 3, 0), stock("a", "x", -1, 4))
	whole.Holds = append(whole.Holds, kept(9, "", "q", 1, 7, -1), kept(6, "a", "x", 1, 0, 0))
	whole.Moves = append(whole.Moves, moved(-1, "q", "q", 0, 0, 0), moved(8, "a", "x", 1, api.OpAdjust, 0))
	inside = api.Ledger{Stocks: whole.Stocks[:len(l.Stocks)], Holds: whole.Holds[:len(l.Holds)], Moves: whole.Moves[:len(l.Moves)], Ops: l.Ops}
	return inside, whole
}

// spoil writes over all that a ledger's lists have, and over the room behind them.
func spoil(l api.Ledger) {
	stocks, holds, moves := l.Stocks[:cap(l.Stocks)], l.Holds[:cap(l.Holds)], l.Moves[:cap(l.Moves)]
	for k := range stocks {
		stocks[k] = stock("spoilt", "spoilt", -1, -1)
	}
	for k := range holds {
		holds[k] = kept(-1, "spoilt", "", -1, -1, -1)
	}
	for k := range moves {
		moves[k] = moved(-1, "spoilt", "", 0, -1, -1)
	}
}

// TestR3: lists are not changed, nor what lies in the room behind them, which counts for nothing; answers are new memory; nil is the empty list.
func TestR3(t *testing.T) {
	ops := []api.Op{receive("a", "x", 1), receive("a", "a", 1), receive("q", "q", 1), hold("a", "x", 1, 2), commit(1), release(3), expire(99), transfer("a", "x", "y", 1), transfer("a", "y", "a", 1), adjust("b", "x", 4), {}, commit(9)}
	for _, l := range []api.Ledger{{}, plain()} {
		bare := callAll(l, ops...)
		inside, whole := roomy(l)
		was := copied(whole)
		if got := callAll(inside, ops...); got != bare {
			t.Errorf("with room behind: %.200s, without: %.200s", got, bare)
		}
		for _, o := range ops {
			first, _ := ledger.Apply(inside, o)
			second, _ := ledger.Apply(inside, o)
			kept := copied(second)
			spoil(first)
			third, _, _ := ledger.Replay(inside, []api.Op{o})
			spoil(third)
			if !sameLedger(second, kept) || !sameLedger(whole, was) {
				t.Errorf("%+v: another answer is %s now, what was given %s", o, short(second), short(whole))
			}
		}
		none, _, _ := ledger.Replay(inside, nil)
		spoil(none)
		room := append([]api.Op{expire(0)}, ops...)
		roomWas := slices.Clone(room)
		if _, n, e := ledger.Replay(inside, room[:1]); n != 1 || e != api.OK || !slices.Equal(room, roomWas) || !sameLedger(whole, was) {
			t.Errorf("one operation of a longer list: %d, error %d; %v, %s", n, e, room, short(whole))
		}
	}
	if a, b := callAll(api.Ledger{}, ops...), callAll(api.Ledger{Stocks: []api.Stock{}, Holds: []api.Hold{}, Moves: []api.Move{}}, ops...); a != b {
		t.Errorf("nil is not the empty list: %.200s, %.200s", a, b)
	}
}

// TestR4: what is asked again is answered the same, whatever was asked between.
func TestR4(t *testing.T) {
	ledgers := oddLedgers()
	var first []string
	for _, l := range ledgers {
		first = append(first, callAll(l, oddOps()...))
	}
	for k, was := range slices.Backward(first) {
		if again := callAll(copied(ledgers[k]), oddOps()...); again != was {
			t.Errorf("at %d: %.200s, then %.200s", k, was, again)
		}
	}
}
