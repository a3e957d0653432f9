package keep_test

import (
	"fmt"
	"reflect"
	"slices"
	"strings"
	"testing"

	"quayside/api"
	"quayside/disk"
	"quayside/keep"
)

var oddNumbers = []int{api.MinInt, api.MinInt + 1, -1 << 31, -1, 0, 1, 2, 7, 8, 4096, 4097, lastTurn, 1 << 31, 1 << 62, api.MaxInt - 1, api.MaxInt}

var oddTexts = []string{"", "\x00", "x", "\xff\xfe", "it's", strings.Repeat("n", 64), strings.Repeat("n", 65), strings.Repeat("\x00", 1<<16)}

// oddOps are operations of every kind, and of none, with odd fields.
func oddOps() []api.Op {
	var out []api.Op
	for kind := -1; kind <= 9; kind++ {
		for _, n := range oddNumbers {
			for _, s := range oddTexts {
				out = append(out, api.Op{Kind: kind, Sku: s, Loc: "x", Qty: n}, api.Op{Kind: kind, Sku: s, Loc: "x", To: s, Qty: n}, api.Op{Kind: kind, Sku: s, Loc: s, Qty: 1, Due: n})
			}
			out = append(out, api.Op{Kind: kind, Id: n}, api.Op{Kind: kind, Due: n}, api.Op{Kind: kind, Sku: "s", Loc: "x", To: "y", Qty: n, Id: n, Due: n})
		}
	}
	return out
}

// oddLedgers are some that may be, and many that may not.
func oddLedgers(t *testing.T) []api.Ledger {
	out := []api.Ledger{{}, busy(t), {Stocks: make([]api.Stock, 5000)}, {Holds: make([]api.Hold, 5000)}, {Moves: make([]api.Move, 5000)}}
	for _, l := range bent(t) {
		out = append(out, l)
	}
	for _, n := range oddNumbers {
		for _, s := range oddTexts {
			out = append(out, api.Ledger{Ops: n},
				api.Ledger{Stocks: []api.Stock{{Sku: s, Loc: s, OnHand: n, Held: n}}},
				api.Ledger{Holds: []api.Hold{{Id: n, Sku: s, Loc: s, Qty: n, State: n, Due: n}}},
				api.Ledger{Holds: []api.Hold{{Id: 1, Sku: "s", Loc: s, Qty: 1, State: n, Due: n}}},
				api.Ledger{Moves: []api.Move{{Seq: n, Sku: s, Loc: s, Delta: n, Kind: n, Hold: n}}})
		}
	}
	return out
}

// TestR1: every call ends without a panic, of any keep and any disk, with the power on and off, at odd operations and ledgers.
func TestR1(t *testing.T) {
	defer func() {
		if r := recover(); r != nil {
			t.Error("panic:", r)
		}
	}()
	off := newDisk(t, 60)
	gone := opened(t, off)
	putOff(t, off)
	keeps := []*keep.Keep{nil, {}, gone}
	for _, d := range []*disk.Disk{nil, {}, newDisk(t, 1), newDisk(t, 4), newDisk(t, 5), newDisk(t, 60), newDisk(t, 4096), diskOf(t, signs(40)), off} {
		k, e := keep.Open(d)
		if (k == nil) != (e != api.OK) {
			t.Errorf("Open: %v, error %d", k, e)
		}
		keeps = append(keeps, k)
	}
	for _, k := range keeps {
		for _, o := range oddOps() {
			k.Submit(o)
		}
		k.Sync()
		k.Ledger()
		k.Checkpoint()
		k.Turn()
	}
	for _, l := range oddLedgers(t) {
		records, e := keep.Records(l)
		if (len(records) == 0) != (e != api.OK) {
			t.Errorf("Records(%s): %d records, error %d", short(l), len(records), e)
		}
	}
}

// TestR1AnyBytes: disks of any bytes, with heads and records put among them, are opened.
func TestR1AnyBytes(t *testing.T) {
	for seed := range 300 {
		x := dice(1442695040888963407 + 31*seed)
		image := []byte(signs(4 + x.below(30)))
		for k := range image {
			image[k] = byte(x.below(256))
		}
		s := string(image)
		turn := 1 + x.below(1000)
		s = upon(s, turn%2*32, head(turn))
		for range 3 {
			record := pick(&x, "", "E", "S", "O", endRecord(1), endRecord(-5), "H\x01\x00", strings.Repeat("M", 30))
			if from, to := area(s, turn); from+len(framed(turn, record)) <= to {
				s = upon(s, from, framed(turn, record))
			}
		}
		d := diskOf(t, s)
		k := opened(t, d)
		has(t, fmt.Sprint("again, of run ", seed), opened(t, d), k.Turn()+1, k.Ledger())
	}
}

// TestR1NotOpened: of one that Open did not give: an empty ledger, ErrArg, 0.
func TestR1NotOpened(t *testing.T) {
	for _, k := range []*keep.Keep{nil, {}, new(keep.Keep)} {
		if l := k.Ledger(); !same(l, api.Ledger{}) || k.Turn() != 0 {
			t.Errorf("Ledger: %s, Turn: %d", short(l), k.Turn())
		}
		for _, o := range []api.Op{{}, receive("s", "x", 1), hold("s", "x", 1, 0), commit(1), expire(0)} {
			must(t, "Submit", k.Submit(o), api.ErrArg)
		}
		must(t, "Sync", k.Sync(), api.ErrArg)
		must(t, "Checkpoint", k.Checkpoint(), api.ErrArg)
		has(t, "not opened", k, 0, api.Ledger{})
	}
}

// refused are calls that are refused, and not for want of power.
func refused(t *testing.T, k *keep.Keep) {
	t.Helper()
	must(t, "Submit, which may not be", k.Submit(api.Op{}), api.ErrArg)
	must(t, "Submit, of no stock", k.Submit(hold("none", "x", 1, 0)), api.ErrStock)
	must(t, "Submit, of no hold", k.Submit(commit(99)), api.ErrHold)
	must(t, "Submit, over", k.Submit(adjust("s", "x", api.MaxInt)), api.ErrOver)
	must(t, "Submit, without room", k.Submit(receive(strings.Repeat("n", 64), strings.Repeat("p", 64), 1)), api.ErrFull)
	if records, e := keep.Records(api.Ledger{Ops: -1}); len(records) != 0 || e != api.ErrArg {
		t.Errorf("Records: %q, error %d", records, e)
	}
	refusesOpen(t, "nil", nil, api.ErrArg)
}

// TestR2: of two keeps the one on which calls are refused between the others answers as the other one does, and so does its disk, to the end of a fuse and behind a crash.
func TestR2(t *testing.T) {
	a, b := newDisk(t, 28), newDisk(t, 28)
	ka, kb := opened(t, a), opened(t, b)
	submits(t, ka, receive("s", "x", 9))
	submits(t, kb, receive("s", "x", 9))
	submit := func(o api.Op) func(*disk.Disk, *keep.Keep) api.Errno {
		return func(_ *disk.Disk, k *keep.Keep) api.Errno { return k.Submit(o) }
	}
	for n, do := range []func(*disk.Disk, *keep.Keep) api.Errno{
		submit(hold("s", "x", 2, 4)), submit(commit(1)),
		func(_ *disk.Disk, k *keep.Keep) api.Errno { return k.Checkpoint() },
		submit(adjust("s", "x", -1)),
		func(_ *disk.Disk, k *keep.Keep) api.Errno { return k.Sync() },
		func(d *disk.Disk, _ *keep.Keep) api.Errno { return d.Fuse(3) },
		submit(expire(4)), submit(expire(5)),
	} {
		was, writes := ka.Ledger(), a.Waits()
		refused(t, ka)
		has(t, fmt.Sprint("ahead of step ", n), ka, ka.Turn(), was)
		if a.Waits() != writes {
			t.Errorf("ahead of step %d: %d writes wait, then %d", n, writes, a.Waits())
		}
		if x, y := do(a, ka), do(b, kb); x != y || a.Waits() != b.Waits() || a.Off() != b.Off() {
			t.Errorf("step %d: error %d, without what is refused: error %d", n, x, y)
		}
		has(t, fmt.Sprint("step ", n), ka, kb.Turn(), kb.Ledger())
	}
	if !a.Off() {
		t.Error("the fuse is not at its end")
	}
	crash(t, a, 32, 32, 20)
	crash(t, b, 32, 32, 20)
	holds(t, "behind the crash", a, 0, bytesOf(t, b))
	has(t, "behind the crash", opened(t, a), opened(t, b).Turn(), opened(t, b).Ledger())
}

// TestR2Full: an Open, and a Checkpoint, that are refused by ErrFull have written nothing, and used nothing of a fuse.
func TestR2Full(t *testing.T) {
	image := laid(t, signs(60), lastTurn-1, recordsOf(busy(t))...)
	d := diskOf(t, image)
	k := opened(t, d)
	was := bytesOf(t, d)
	must(t, "Fuse", d.Fuse(1), api.OK)
	for range 3 {
		must(t, "Checkpoint", k.Checkpoint(), api.ErrFull)
		refusesOpen(t, "the last turn", d, api.ErrFull)
	}
	syncs(t, k)
	must(t, "Fuse", d.Fuse(-1), api.OK)
	holds(t, "refused", d, 0, was)
	has(t, "refused", k, lastTurn, busy(t))
}

// roomy is a ledger whose lists have room behind their ends, in which something lies; that is told too.
func roomy(l api.Ledger) (api.Ledger, func() string) {
	stocks := append(slices.Clone(l.Stocks), api.Stock{Sku: "behind"}, api.Stock{Sku: "behind", Held: 4})
	holds := append(slices.Clone(l.Holds), api.Hold{Id: 77}, api.Hold{Id: 78})
	moves := append(slices.Clone(l.Moves), api.Move{Seq: 55}, api.Move{Seq: 56})
	out := api.Ledger{Stocks: stocks[:len(l.Stocks)], Holds: holds[:len(l.Holds)], Moves: moves[:len(l.Moves)], Ops: l.Ops}
	return out, func() string { return fmt.Sprint(stocks, holds, moves) }
}

// TestR3Records: a ledger that is handed in is not changed, nor what lies behind its lists' ends; the records are new each time.
func TestR3Records(t *testing.T) {
	l, all := roomy(busy(t))
	was := all()
	first, _ := keep.Records(l)
	if all() != was {
		t.Errorf("%s, was %s", all(), was)
	}
	want := slices.Clone(first)
	second, _ := keep.Records(l)
	clear(first)
	first = append(first[:0], "another one")
	third, _ := keep.Records(l)
	if !slices.Equal(second, want) || !slices.Equal(third, want) {
		t.Errorf("%q and %q, want %q", second, third, want)
	}
}

// TestR3Ledger: what was handed out is not changed by later calls, and later calls not by what is done to it, nor to what lies behind its ends.
func TestR3Ledger(t *testing.T) {
	d := newDisk(t, 120)
	k := opened(t, d)
	ops := []api.Op{receive("s", "x", 9), receive("t", "x", 9), hold("s", "x", 3, 4), hold("t", "x", 1, 0), commit(1), release(2), adjust("a", "x", 3), transfer("t", "x", "a", 2), expire(9)}
	var out, was []api.Ledger
	want := api.Ledger{}
	for n, o := range ops {
		submits(t, k, o)
		want = behind(t, want, o)
		l := k.Ledger()
		out, was = append(out, l), append(was, copied(l))
		spoilt := k.Ledger()
		_ = append(spoilt.Stocks, api.Stock{Sku: "spoilt"})
		_ = append(spoilt.Holds, api.Hold{Id: 99})
		_ = append(spoilt.Moves, api.Move{Seq: 99})
		clear(spoilt.Stocks)
		clear(spoilt.Holds)
		clear(spoilt.Moves)
		if n == 5 {
			checkpoints(t, k)
		}
		has(t, fmt.Sprintf("behind %+v", o), k, k.Turn(), want)
	}
	k = opened(t, d)
	has(t, "opened", k, 3, want)
	l := k.Ledger()
	clear(l.Stocks)
	has(t, "opened, what was handed out spoilt", k, 3, want)
	for n := range out {
		if !reflect.DeepEqual(out[n], was[n]) {
			t.Errorf("the ledger behind %d operations is %s, was %s", n+1, short(out[n]), short(was[n]))
		}
	}
}

// TestR4: what is answered hangs on the calls alone: the same ones lead to the same bytes, whatever is done to other keeps between.
func TestR4(t *testing.T) {
	a, b, other := newDisk(t, 50), newDisk(t, 50), newDisk(t, 50)
	ka, kb, ko := opened(t, a), opened(t, b), opened(t, other)
	x, y := dice(99), dice(7)
	for step := range 80 {
		o := x.op(2)
		if e, f := ka.Submit(o), kb.Submit(o); e != f {
			t.Errorf("step %d: error %d, then %d", step, e, f)
		}
		ko.Submit(y.op(2))
		if step%20 == 7 {
			checkpoints(t, ka)
			checkpoints(t, kb)
		}
		ko.Sync()
		has(t, fmt.Sprint("step ", step), ka, kb.Turn(), kb.Ledger())
	}
	holds(t, "at the end", a, b.Waits(), bytesOf(t, b))
}
