package entry_test

import (
	"fmt"
	"slices"
	"testing"

	"quayside/api"
	"quayside/entry"
	"quayside/value"
)

// TestExample is the chapter's: a hold that is for good.
func TestExample(t *testing.T) {
	r := entry.HoldRow(api.Hold{Id: 1, Sku: "s", Loc: "l", Qty: 3})
	if len(r) != 6 || r[5] != null {
		t.Errorf("the row is %v", r)
	}
}

// TestEn1Plain: one operation of each kind, and one that is empty.
func TestEn1Plain(t *testing.T) {
	for _, o := range plainOps() {
		opIs(t, o, true)
	}
	opIs(t, api.Op{}, false)
}

// TestEn1Names: names of 0, 1, 64, 65 and more bytes, at each place where one must be.
func TestEn1Names(t *testing.T) {
	for size, ok := range map[int]bool{0: false, 1: true, 2: true, 63: true, 64: true, 65: false, 128: false, 256: false, 257: false, 320: false} {
		for _, o := range plainOps() {
			if o.Sku == "" {
				continue
			}
			sku, loc, to := o, o, o
			sku.Sku, loc.Loc, to.To = long(size), long(size), long(size)
			opIs(t, sku, ok)
			opIs(t, loc, ok)
			if o.To != "" {
				opIs(t, to, ok)
			}
		}
	}
	for _, name := range []string{"\x00", " ", "'", "\xff", "é", "\n"} {
		opIs(t, api.Op{Kind: api.OpTransfer, Sku: name, Loc: name, To: name + name, Qty: 1}, true)
	}
}

// TestEn1Numbers: Qty, Id and Due below nought, at nought, and above, of the kinds that have them.
func TestEn1Numbers(t *testing.T) {
	for _, n := range []int{api.MinInt, api.MinInt + 1, -2, -1, 0, 1, 2, 1 << 32, api.MaxInt} {
		opIs(t, api.Op{Kind: api.OpReceive, Sku: "s", Loc: "l", Qty: n}, n > 0)
		opIs(t, api.Op{Kind: api.OpHold, Sku: "s", Loc: "l", Qty: n}, n > 0)
		opIs(t, api.Op{Kind: api.OpHold, Sku: "s", Loc: "l", Qty: n, Due: 7}, n > 0)
		opIs(t, api.Op{Kind: api.OpHold, Sku: "s", Loc: "l", Qty: 7, Due: n}, n >= 0)
		opIs(t, api.Op{Kind: api.OpCommit, Id: n}, n > 0)
		opIs(t, api.Op{Kind: api.OpRelease, Id: n}, n > 0)
		opIs(t, api.Op{Kind: api.OpExpire, Due: n}, n >= 0)
		opIs(t, api.Op{Kind: api.OpTransfer, Sku: "s", Loc: "l", To: "m", Qty: n}, n > 0)
		opIs(t, api.Op{Kind: api.OpAdjust, Sku: "s", Loc: "l", Qty: n}, n != 0)
	}
}

// TestEn1Others: a field that an operation does not have is not empty.
func TestEn1Others(t *testing.T) {
	for _, o := range plainOps() {
		for _, s := range []string{"a", "l", long(64), long(65)} {
			sku, loc, to := o, o, o
			sku.Sku, loc.Loc, to.To = s, s, s
			if o.Sku == "" {
				opIs(t, sku, false)
				opIs(t, loc, false)
			}
			if o.To == "" {
				opIs(t, to, false)
			}
		}
		for _, n := range []int{api.MinInt, -1, 1, 2, api.MaxInt} {
			qty, id, due := o, o, o
			qty.Qty, id.Id, due.Due = n, n, n
			if o.Qty == 0 {
				opIs(t, qty, false)
			}
			if o.Id == 0 {
				opIs(t, id, false)
			}
			if o.Due == 0 {
				opIs(t, due, false)
			}
		}
	}
}

// TestEn1Kinds: kinds that are none, with the fields of each that is.
func TestEn1Kinds(t *testing.T) {
	for _, kind := range []int{api.MinInt, -257, -1, 0, 8, 9, 256, 257, 263, 1<<32 + 1, api.MaxInt} {
		opIs(t, api.Op{Kind: kind}, false)
		for _, o := range plainOps() {
			o.Kind = kind
			opIs(t, o, false)
		}
	}
}

// TestEn1Transfer: from a place to another one.
func TestEn1Transfer(t *testing.T) {
	for _, x := range []struct {
		sku, loc, to string
		ok           bool
	}{
		{"s", "l", "m", true},
		{"s", "l", "l", false},
		{"s", "s", "s", false},
		{"s", "s", "l", true},
		{"s", "l", "s", true},
		{"s", "l", "ll", true},
		{"s", "ll", "l", true},
		{"s", "l", "L", true},
		{"s", "l", "l\x00", true},
		{"s", long(64), long(64), false},
		{"s", long(63) + "a", long(63) + "b", true},
		{"s", "", "", false},
	} {
		opIs(t, api.Op{Kind: api.OpTransfer, Sku: x.sku, Loc: x.loc, To: x.to, Qty: 1}, x.ok)
	}
}

// TestEn1All holds operations of all fields' edges, each with each, against what the document says of the kinds.
func TestEn1All(t *testing.T) {
	told := map[bool]int{}
	texts := []string{"", "s", "t", long(65)}
	for kind := -1; kind <= 8; kind++ {
		for k := range 4 * 4 * 4 * 3 * 3 * 3 {
			o := api.Op{Kind: kind, Sku: texts[k%4], Loc: texts[k/4%4], To: texts[k/16%4], Qty: k/64%3 - 1, Id: k/192%3 - 1, Due: k/576 - 1}
			opIs(t, o, mayOp(o))
			told[mayOp(o)]++
		}
	}
	// Of two names: Receive, Hold (Due of two), Adjust (Qty of two), Transfer (To is not Loc); Commit and Release; Expire (Due of two).
	if want := 4*1 + 4*2 + 4*2 + 2*2 + 2*1 + 2; told[true] != want {
		t.Errorf("%v were told, want %d that may be", told, want)
	}
}

// TestEn1Bytes writes the bytes out.
func TestEn1Bytes(t *testing.T) {
	nought, one := "\x01\x80\x00\x00\x00\x00\x00\x00\x00", "\x01\x80\x00\x00\x00\x00\x00\x00\x01"
	for _, x := range []struct {
		op   api.Op
		want string
	}{
		{api.Op{Kind: api.OpReceive, Sku: "s", Loc: "l", Qty: 258}, "\x07" + one + "\x02\x01s\x02\x01l\x02\x00\x01\x80\x00\x00\x00\x00\x00\x01\x02" + nought + nought},
		{api.Op{Kind: api.OpHold, Sku: "ab", Loc: "c", Qty: 1, Due: api.MaxInt}, "\x07\x01\x80\x00\x00\x00\x00\x00\x00\x02\x02\x02ab\x02\x01c\x02\x00" + one + nought + "\x01\xff\xff\xff\xff\xff\xff\xff\xff"},
		{api.Op{Kind: api.OpCommit, Id: 1}, "\x07\x01\x80\x00\x00\x00\x00\x00\x00\x03\x02\x00\x02\x00\x02\x00" + nought + one + nought},
		{api.Op{Kind: api.OpRelease, Id: 1}, "\x07\x01\x80\x00\x00\x00\x00\x00\x00\x04\x02\x00\x02\x00\x02\x00" + nought + one + nought},
		{api.Op{Kind: api.OpExpire}, "\x07\x01\x80\x00\x00\x00\x00\x00\x00\x05\x02\x00\x02\x00\x02\x00" + nought + nought + nought},
		{api.Op{Kind: api.OpTransfer, Sku: "s", Loc: "l", To: "mn", Qty: 1}, "\x07\x01\x80\x00\x00\x00\x00\x00\x00\x06\x02\x01s\x02\x01l\x02\x02mn" + one + nought + nought},
		{api.Op{Kind: api.OpAdjust, Sku: "s", Loc: "l", Qty: -1}, "\x07\x01\x80\x00\x00\x00\x00\x00\x00\x07\x02\x01s\x02\x01l\x02\x00\x01\x7f\xff\xff\xff\xff\xff\xff\xff" + nought + nought},
	} {
		if s, e := entry.Put(x.op); s != x.want || e != api.OK {
			t.Errorf("Put(%v): %q, error %d; want %q", x.op, s, e, x.want)
		}
		takes(t, x.want, x.op, api.OK)
	}
}

// TestEn1Take: bytes that are cut off, or too many, or of rows that are of no operation.
func TestEn1Take(t *testing.T) {
	takes(t, "", api.Op{}, api.ErrForm)
	takes(t, "\x00", api.Op{}, api.ErrForm)
	for _, o := range plainOps() {
		whole, row := rawOp(o), opRow(o)
		for cut := range len(whole) {
			takes(t, whole[:cut], api.Op{}, api.ErrForm)
			takes(t, whole[cut+1:], api.Op{}, api.ErrForm)
		}
		for _, more := range []string{"\x00", "\x01", "x", whole} {
			takes(t, whole+more, api.Op{}, api.ErrForm)
		}
		for n := range len(row) {
			takes(t, rawRow(row[:n]), api.Op{}, api.ErrForm)
			takes(t, rawRow(slices.Delete(slices.Clone(row), n, n+1)), api.Op{}, api.ErrForm)
		}
		for _, v := range oddValues() {
			takes(t, rawRow(append(row[:7:7], v)), api.Op{}, api.ErrForm)
			takes(t, rawRow(append(api.Row{v}, row...)), api.Op{}, api.ErrForm)
		}
	}
}

// TestEn1TakeOthers: at each place of an operation's row another value, some of which may stand there.
func TestEn1TakeOthers(t *testing.T) {
	told := map[api.Errno]int{}
	for _, o := range plainOps() {
		for place, own := range opRow(o) {
			for _, v := range append(oddValues(), truth(own.N), number(len(own.S)), text(value.Show(own))) {
				if v.Kind < 0 || v.Kind > 255 {
					continue // has no bytes
				}
				row := opRow(o)
				row[place] = v
				want, err := api.Op{Kind: row[0].N, Sku: row[1].S, Loc: row[2].S, To: row[3].S, Qty: row[4].N, Id: row[5].N, Due: row[6].N}, api.OK
				if !mayOp(want) || rawOp(want) != rawRow(row) {
					want, err = api.Op{}, api.ErrForm
				}
				takes(t, rawRow(row), want, err)
				told[err]++
			}
		}
	}
	if len(told) != 2 {
		t.Error("not both were told:", told)
	}
}

func TestEn2StockRow(t *testing.T) {
	for _, x := range []struct {
		stock api.Stock
		want  api.Row
	}{
		{api.Stock{Sku: "s", Loc: "l", OnHand: 5, Held: 3}, api.Row{text("s"), text("l"), number(5), number(3)}},
		{api.Stock{}, api.Row{text(""), text(""), number(0), number(0)}},
		{api.Stock{Sku: long(64), Loc: "l", OnHand: -1, Held: api.MinInt}, api.Row{text(long(64)), text("l"), number(-1), number(api.MinInt)}},
		{api.Stock{Sku: "s", Loc: long(64), OnHand: api.MaxInt, Held: -2}, api.Row{text("s"), text(long(64)), number(api.MaxInt), number(-2)}},
		{api.Stock{Sku: long(65), Loc: "l"}, api.Row{text(long(65)), text("l"), number(0), number(0)}},
		{api.Stock{Sku: "s", Loc: long(65)}, api.Row{text("s"), text(long(65)), number(0), number(0)}},
	} {
		sameRow(t, x.stock, entry.StockRow(x.stock), x.want)
		got, e := entry.RowStock(x.want)
		if len(x.stock.Sku) > 64 || len(x.stock.Loc) > 64 {
			if got != (api.Stock{}) || e != api.ErrForm {
				t.Errorf("RowStock(%v): %v, error %d", x.want, got, e)
			}
		} else if got != x.stock || e != api.OK {
			t.Errorf("RowStock(%v): %v, error %d", x.want, got, e)
		}
	}
}

// TestEn2HoldRow: of every state, of texts of 64 and 65 bytes, of Due 0 and not.
func TestEn2HoldRow(t *testing.T) {
	for state, told := range map[int]string{api.HoldActive: "active", api.HoldOut: "out", api.HoldUp: "up"} {
		for due, last := range map[int]api.Value{0: null, 1: number(1), -1: number(-1), api.MaxInt: number(api.MaxInt), api.MinInt: number(api.MinInt)} {
			for size, err := range map[int]api.Errno{0: api.OK, 1: api.OK, 64: api.OK, 65: api.ErrForm} {
				for _, h := range []api.Hold{{Id: 9, Sku: long(size), Loc: "l", Qty: -3, State: state, Due: due}, {Id: -9, Sku: "s", Loc: long(size), Qty: 3, State: state, Due: due}} {
					r := api.Row{number(h.Id), text(h.Sku), text(h.Loc), number(h.Qty), text(told), last}
					sameRow(t, h, entry.HoldRow(h), r)
					if err != api.OK {
						h = api.Hold{}
					}
					if got, e := entry.RowHold(r); got != h || e != err {
						t.Errorf("RowHold(%v): %v, error %d; want %v, error %d", r, got, e, h, err)
					}
				}
			}
		}
	}
	for _, state := range []int{api.MinInt, -256, -1, 3, 4, 256, 1 << 32, api.MaxInt} {
		h := api.Hold{Id: 1, Sku: "s", Loc: "l", Qty: 1, State: state, Due: 1}
		sameRow(t, h, entry.HoldRow(h), nil)
	}
}

// TestEn2MoveRow: of every kind, of texts of 64 and 65 bytes, of Hold 0 and not.
func TestEn2MoveRow(t *testing.T) {
	for kind, told := range map[int]string{api.OpReceive: "receive", api.OpCommit: "commit", api.OpTransfer: "transfer", api.OpAdjust: "adjust"} {
		for hold, last := range map[int]api.Value{0: null, 1: number(1), -1: number(-1), api.MaxInt: number(api.MaxInt), api.MinInt: number(api.MinInt)} {
			for size, err := range map[int]api.Errno{0: api.OK, 1: api.OK, 64: api.OK, 65: api.ErrForm} {
				for _, m := range []api.Move{{Seq: 9, Sku: long(size), Loc: "l", Delta: -3, Kind: kind, Hold: hold}, {Seq: -9, Sku: "s", Loc: long(size), Delta: 3, Kind: kind, Hold: hold}} {
					r := api.Row{number(m.Seq), text(m.Sku), text(m.Loc), number(m.Delta), text(told), last}
					sameRow(t, m, entry.MoveRow(m), r)
					if err != api.OK {
						m = api.Move{}
					}
					if got, e := entry.RowMove(r); got != m || e != err {
						t.Errorf("RowMove(%v): %v, error %d; want %v, error %d", r, got, e, m, err)
					}
				}
			}
		}
	}
	for _, kind := range []int{api.MinInt, -1, 0, api.OpHold, api.OpRelease, api.OpExpire, 8, 9, 257, 1<<32 + 1, api.MaxInt} {
		m := api.Move{Seq: 1, Sku: "s", Loc: "l", Delta: 1, Kind: kind, Hold: 1}
		sameRow(t, m, entry.MoveRow(m), nil)
	}
}

// TestEn2Width: rows with one value more, one fewer, none, and those of another kind of rows.
func TestEn2Width(t *testing.T) {
	for _, x := range shapes() {
		rowIs(t, x, nil, false)
		rowIs(t, x, api.Row{}, false)
		rowIs(t, x, make(api.Row, len(x.signs)), false)
		rowIs(t, x, make(api.Row, 1<<16), false)
		for _, r := range x.rows {
			rowIs(t, x, r, true)
			for n := range len(r) {
				rowIs(t, x, r[:n], false)
				rowIs(t, x, r[n+1:], false)
				rowIs(t, x, slices.Delete(slices.Clone(r), n, n+1), false)
			}
			for _, v := range oddValues() {
				rowIs(t, x, append(slices.Clone(r), v), false)
				rowIs(t, x, append(api.Row{v}, r...), false)
			}
		}
		for _, y := range shapes() {
			for _, r := range y.rows {
				rowIs(t, x, r, x.name == y.name)
			}
		}
	}
}

// TestEn2Others: at each place of each row another value, of which some may stand there.
func TestEn2Others(t *testing.T) {
	for _, x := range shapes() {
		told := map[string]int{}
		for _, r := range x.rows {
			for place, own := range r {
				for _, v := range append(oddValues(), truth(own.N), api.Value{N: own.N, S: own.S}, api.Value{Kind: api.Int, N: own.N, S: own.S}, api.Value{Kind: api.Text, N: own.N, S: own.S}) {
					bent := slices.Clone(r)
					bent[place] = v
					ok := fits(bent, x.signs)
					rowIs(t, x, bent, ok)
					told[fmt.Sprint(place, ok)]++
				}
			}
		}
		if len(told) != 2*len(x.signs) {
			t.Errorf("of a %s not both were told at each place: %v", x.name, told)
		}
	}
}

// TestEn2Refused writes out what a row may not be.
func TestEn2Refused(t *testing.T) {
	for _, r := range []api.Row{
		{number(1), text("s"), text("l"), number(3), text("active"), number(0)},
		{number(1), text("s"), text("l"), number(3), text("active"), text("")},
		{number(1), text("s"), text("l"), number(3), text("active"), truth(1)},
		{number(1), text("s"), text("l"), number(3), text("active"), {Kind: api.Null, N: 1}},
		{number(1), text("s"), text("l"), number(3), text("Active"), null},
		{number(1), text("s"), text("l"), number(3), text("activ"), null},
		{number(1), text("s"), text("l"), number(3), text(""), null},
		{number(1), text("s"), text("l"), number(3), number(0), null},
		{number(1), text("s"), text("l"), number(3), null, null},
		{number(1), text("s"), text("l"), number(3), text("commit"), null},
		{null, text("s"), text("l"), number(3), text("up"), null},
		{number(1), null, text("l"), number(3), text("up"), null},
		{number(1), text("s"), number(2), number(3), text("up"), null},
		{number(1), text("s"), text("l"), text("3"), text("up"), null},
	} {
		rowIs(t, shapes()[1], r, false)
	}
	for _, r := range []api.Row{
		{number(1), text("s"), text("l"), number(3), text("receive"), number(0)},
		{number(1), text("s"), text("l"), number(3), text("hold"), null},
		{number(1), text("s"), text("l"), number(3), text("release"), null},
		{number(1), text("s"), text("l"), number(3), text("expire"), null},
		{number(1), text("s"), text("l"), number(3), text("active"), null},
		{number(1), text("s"), text("l"), number(3), text("ADJUST"), null},
		{number(1), text("s"), text("l"), number(3), text("adjusts"), null},
		{number(1), text("s"), text("l"), number(3), text(""), null},
		{number(1), text("s"), text("l"), number(3), number(1), null},
	} {
		rowIs(t, shapes()[2], r, false)
	}
	for _, r := range []api.Row{
		{null, null, null, null},
		{text("s"), text("l"), number(5), null},
		{text("s"), text("l"), null, number(3)},
		{text("s"), text("l"), truth(1), truth(0)},
		{text("s"), number(1), number(5), number(3)},
		{{Kind: api.Text, N: 1, S: "s"}, text("l"), number(5), number(3)},
		{text("s"), text("l"), {Kind: api.Int, N: 5, S: "5"}, number(3)},
	} {
		rowIs(t, shapes()[0], r, false)
	}
}

// TestEn3Ops: what was put is taken as it was.
func TestEn3Ops(t *testing.T) {
	x := dice(606)
	kinds := map[int]int{}
	for range 20000 {
		o := x.op()
		kinds[o.Kind]++
		opIs(t, o, true)
	}
	if len(kinds) != 7 {
		t.Error("not all kinds were put:", kinds)
	}
}

// TestEn3Bent: bytes that are bent at one place are those of another operation, which is put as them, or of none.
func TestEn3Bent(t *testing.T) {
	x := dice(6161)
	told := map[api.Errno]int{}
	for range 20000 {
		s := []byte(rawOp(x.op()))
		s[x.below(len(s))] ^= 1 << x.below(8)
		o, e := entry.Take(string(s))
		told[e]++
		if e == api.OK {
			opIs(t, o, mayOp(o))
			if rawOp(o) != string(s) {
				t.Errorf("Take(%q): %v, of other bytes", s, o)
			}
		} else if e != api.ErrForm || o != (api.Op{}) {
			t.Errorf("Take(%q): %v, error %d", s, o, e)
		}
	}
	if len(told) != 2 {
		t.Error("not both were told:", told)
	}
}

// TestEn3Rows: rows lead back to what they are of.
func TestEn3Rows(t *testing.T) {
	x := dice(616)
	for range 5000 {
		s := api.Stock{Sku: x.text(x.below(65)), Loc: x.text(x.below(65)), OnHand: x.number(), Held: x.number()}
		if got, e := entry.RowStock(entry.StockRow(s)); got != s || e != api.OK {
			t.Errorf("%v became %v, error %d", s, got, e)
		}
		h := api.Hold{Id: x.number(), Sku: x.text(x.below(65)), Loc: x.text(x.below(65)), Qty: x.number(), State: x.below(3), Due: x.number()}
		if got, e := entry.RowHold(entry.HoldRow(h)); got != h || e != api.OK {
			t.Errorf("%v became %v, error %d", h, got, e)
		}
		kinds := []int{api.OpReceive, api.OpCommit, api.OpTransfer, api.OpAdjust}
		m := api.Move{Seq: x.number(), Sku: x.text(x.below(65)), Loc: x.text(x.below(65)), Delta: x.number(), Kind: kinds[x.below(4)], Hold: x.number()}
		if got, e := entry.RowMove(entry.MoveRow(m)); got != m || e != api.OK {
			t.Errorf("%v became %v, error %d", m, got, e)
		}
	}
}
