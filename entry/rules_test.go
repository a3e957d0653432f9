package entry_test

import (
	"fmt"
	"slices"
	"strings"
	"testing"

	"quayside/api"
	"quayside/entry"
)

// callAll is what every call of the layer answers at an operation, a text and a row, and at what has their fields.
func callAll(o api.Op, s string, r api.Row) string {
	put, errPut := entry.Put(o)
	taken, errTaken := entry.Take(s)
	rows := []api.Row{
		entry.StockRow(api.Stock{Sku: o.Sku, Loc: o.Loc, OnHand: o.Qty, Held: o.Id}),
		entry.HoldRow(api.Hold{Id: o.Id, Sku: o.Sku, Loc: o.Loc, Qty: o.Qty, State: o.Kind, Due: o.Due}),
		entry.MoveRow(api.Move{Seq: o.Due, Sku: o.Sku, Loc: o.Loc, Delta: o.Qty, Kind: o.Kind, Hold: o.Id}),
	}
	stock, errStock := entry.RowStock(r)
	hold, errHold := entry.RowHold(r)
	move, errMove := entry.RowMove(r)
	return fmt.Sprintf("%d %q %d %v %d %v %v %d %v %d %v %d", entry.Check(o), put, errPut, taken, errTaken, rows, stock, errStock, hold, errHold, move, errMove)
}

func oddOps() []api.Op {
	ops := append(plainOps(), api.Op{}, api.Op{Kind: api.MinInt, Sku: long(1 << 16), Loc: long(1 << 16), To: long(1 << 16), Qty: api.MinInt, Id: api.MinInt, Due: api.MinInt}, api.Op{Kind: api.MaxInt, Qty: api.MaxInt, Id: api.MaxInt, Due: api.MaxInt})
	for kind := -1; kind <= 8; kind++ {
		ops = append(ops, api.Op{Kind: kind, Sku: "\xff", Loc: "\x00", To: "\x00", Qty: -1, Id: -1, Due: -1}, api.Op{Kind: kind, Sku: long(65), Loc: long(65), To: long(65), Qty: api.MinInt, Id: api.MaxInt, Due: api.MinInt})
	}
	return ops
}

func oddTexts() []string {
	texts := []string{"", "\x00", "\x01", "\x06", "\x07", "\x08", "\xff", "\x07\x01", "\x07\x01\x80", "\x07\x02\xff", strings.Repeat("\x00", 8), "\x07" + strings.Repeat("\x00", 7), "\x07" + strings.Repeat("\x02\x00", 7), strings.Repeat("\x07", 300), strings.Repeat("\xff\x01", 1<<18)}
	for _, o := range oddOps() {
		texts = append(texts, rawOp(o))
	}
	return texts
}

func oddRows() []api.Row {
	rows := []api.Row{nil, {}, oddValues(), make(api.Row, 4), make(api.Row, 6), make(api.Row, 7), make(api.Row, 1<<16)}
	for _, x := range shapes() {
		rows = append(rows, x.rows...)
	}
	for n := range oddValues() {
		rows = append(rows, slices.Repeat(oddValues()[n:n+1], 4), slices.Repeat(oddValues()[n:n+1], 6), oddValues()[n:min(n+6, len(oddValues()))])
	}
	return rows
}

// TestR1: every call ends without a panic, at any operations, texts and rows.
func TestR1(t *testing.T) {
	defer func() {
		if r := recover(); r != nil {
			t.Error("panic:", r)
		}
	}()
	ops, texts, rows := oddOps(), oddTexts(), oddRows()
	for k := range max(len(ops), len(texts), len(rows)) {
		callAll(ops[k%len(ops)], texts[k%len(texts)], rows[k%len(rows)])
	}
}

// TestR2: beside an error there is nothing, though a part of it could be told; and what is refused changes nothing for calls behind it.
func TestR2(t *testing.T) {
	refuse := func() {
		opIs(t, api.Op{Kind: api.OpTransfer, Sku: "s", Loc: "l", To: "l", Qty: 2}, false)
		opIs(t, api.Op{Kind: api.OpCommit, Id: 1, Due: 1}, false)
		whole := rawOp(plainOps()[5])
		takes(t, whole[:len(whole)-1], api.Op{}, api.ErrForm)
		takes(t, whole+"\x00", api.Op{}, api.ErrForm)
		for _, x := range shapes() {
			r := slices.Clone(x.rows[0])
			r[len(r)-1] = text("no")
			rowIs(t, x, r, false)
			rowIs(t, x, r[:len(r)-1], false)
		}
		if len(entry.HoldRow(api.Hold{Id: 1, Sku: "s", State: 3})) != 0 || len(entry.MoveRow(api.Move{Seq: 1, Sku: "s", Kind: api.OpHold})) != 0 {
			t.Error("rows of no State, or no Kind, are not empty")
		}
	}
	ops, rows := oddOps(), oddRows()
	for k, o := range ops {
		was := callAll(o, rawOp(o), rows[k])
		refuse()
		if again := callAll(o, rawOp(o), rows[k]); again != was {
			t.Errorf("at %.99v: %.200s, then %.200s", o, was, again)
		}
	}
}

// TestR3: rows are not changed, nor what lies in the room behind them, which counts for nothing; answers are new memory; nil is the empty row.
func TestR3(t *testing.T) {
	for _, x := range shapes() {
		for _, r := range x.rows {
			room := append(slices.Clone(r), text("behind"), api.Value{Kind: 9, N: 9, S: "no"})
			was := slices.Clone(room)
			rowIs(t, x, room[:len(r)], true)
			rowIs(t, x, room[:len(r)-1], false)
			rowIs(t, x, room[:len(r)+1], false)
			rowIs(t, x, room[:0], false)
			if !slices.Equal(room, was) {
				t.Errorf("the list is %v now, was %v", room, was)
			}
			_, _, first, _ := x.back(room[:len(r)])
			_, _, second, _ := x.back(room[:len(r)])
			for k := range first {
				first[k] = text("changed")
			}
			_ = append(first[:1], null, null)
			if !slices.Equal(second, r) || !slices.Equal(room, was) {
				t.Errorf("another answer is %v now, the list %v", second, room)
			}
			rowIs(t, x, room[:len(r)], true)
		}
	}
	if callAll(api.Op{}, "", nil) != callAll(api.Op{}, "", api.Row{}) {
		t.Error("nil is not the empty row")
	}
}

// TestR4: what is asked again is answered the same, whatever was asked between.
func TestR4(t *testing.T) {
	ops, texts, rows := oddOps(), oddTexts(), oddRows()
	at := func(k int) string {
		return callAll(ops[k%len(ops)], texts[k%len(texts)], rows[k%len(rows)])
	}
	var first []string
	for k := range 2 * len(rows) {
		first = append(first, at(k))
	}
	for k, was := range slices.Backward(first) {
		if again := at(k); again != was {
			t.Errorf("at %d: %.200s, then %.200s", k, was, again)
		}
	}
}
