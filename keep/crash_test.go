package keep_test

import (
	"fmt"
	"slices"
	"testing"

	"quayside/api"
	"quayside/disk"
	"quayside/keep"
	"quayside/ledger"
)

// history is the ledgers behind each operation that was done, and how many of these were sure.
type history struct {
	ledgers []api.Ledger
	sure    int
}

func (h *history) now() api.Ledger { return h.ledgers[len(h.ledgers)-1] }

// begun notes an operation that was done, or at which the power went off: its record may be there or not.
func (h *history) begun(t *testing.T, o api.Op) {
	t.Helper()
	next, e := ledger.Apply(h.now(), o)
	must(t, "the history's own", e, api.OK)
	h.ledgers = append(h.ledgers, next)
}

func (h *history) settle() { h.sure = len(h.ledgers) - 1 }

// beginning tells that a ledger is one of the history's, with all that was sure in it; it is the only one then.
func (h *history) beginning(t *testing.T, what string, l api.Ledger) {
	t.Helper()
	if !slices.ContainsFunc(h.ledgers[h.sure:], func(one api.Ledger) bool { return same(one, l) }) {
		t.Fatalf("%s: %d operations of %d were sure, what is there is %s", what, h.sure, len(h.ledgers)-1, short(l))
	}
	h.ledgers, h.sure = []api.Ledger{l}, 0
}

// step is a call of a run.
type step struct {
	kind int // 0: Submit, 1: Sync, 2: Checkpoint, 3: Open
	op   api.Op
}

// steps are any calls.
func (x *dice) steps(n int) []step {
	var out []step
	for range n {
		switch x.below(12) {
		case 0, 1:
			out = append(out, step{kind: 1})
		case 2:
			out = append(out, step{kind: 2})
		case 3:
			out = append(out, step{kind: 3})
		default:
			out = append(out, step{op: x.op(3)})
		}
	}
	return out
}

// run does calls on a disk, beginning with Open, till the power goes off or none is left, and notes what was done; it tells whether the power is on.
func run(t *testing.T, d *disk.Disk, h *history, steps []step) bool {
	t.Helper()
	var k *keep.Keep
	e := api.OK
	for _, s := range append([]step{{kind: 3}}, steps...) {
		switch s.kind {
		case 0:
			if e = k.Submit(s.op); e == api.OK || e == api.ErrOff {
				h.begun(t, s.op)
			}
		case 1:
			e = k.Sync()
		case 2:
			e = k.Checkpoint()
		case 3:
			k, e = keep.Open(d)
		}
		if e == api.ErrOff {
			return false
		}
		if s.kind > 0 {
			must(t, fmt.Sprintf("%+v", s), e, api.OK)
			h.settle()
		}
		if !same(k.Ledger(), h.now()) {
			t.Fatalf("behind %+v: %s, want %s", s, short(k.Ledger()), short(h.now()))
		}
	}
	return true
}

// survivors are ways in which of so many writes some survive: none, all, the first half, the last one alone, all but the first one, each second one, and parts.
func survivors(x *dice, n int) [][]int {
	out := make([][]int, 9)
	for k := range n {
		all := func(yes bool) int {
			if yes {
				return 32
			}
			return 0
		}
		out[1] = append(out[1], 32)
		out[2] = append(out[2], all(k < n/2))
		out[3] = append(out[3], all(k == n-1))
		out[4] = append(out[4], all(k > 0))
		out[5] = append(out[5], all(k%2 == 0))
		out[6] = append(out[6], 32*x.below(2))
		out[7] = append(out[7], x.below(40)-4)
		out[8] = append(out[8], pick(x, 4, 8, 12, 31))
	}
	return out
}

// TestKe3EachWriting: a long run, with a crash at each of its writings, and of what was not sure each kind of survivors: the ledger is that of a beginning, with all that was sure; opened again it is the same; it can be gone on with.
func TestKe3EachWriting(t *testing.T) {
	for seed := range 2 {
		x := dice(2862933555777941757 + 7919*seed)
		n := 40 + x.below(40)
		steps := x.steps(60)
		fuse, on := 0, false
		for ; !on; fuse++ {
			for way := range 9 {
				what := fmt.Sprintf("run %d, fuse %d, way %d", seed, fuse, way)
				d := newDisk(t, n)
				must(t, "Fuse", d.Fuse(fuse), api.OK)
				h := &history{ledgers: []api.Ledger{{}}}
				on = run(t, d, h, steps)
				crash(t, d, survivors(&x, d.Waits())[way]...)
				k := opened(t, d)
				l, turn := k.Ledger(), k.Turn()
				h.beginning(t, what, l)
				crash(t, d)
				has(t, what+", again", opened(t, d), turn+1, l)
				must(t, what, d.Fuse(-1), api.OK)
				if !run(t, d, h, steps[:4]) {
					t.Fatalf("%s: it can not be gone on with", what)
				}
			}
		}
		if fuse < 200 {
			t.Errorf("run %d: only %d writings", seed, fuse)
		}
	}
}

// TestKe3ManyCrashes: crashes one behind the other, in Open too, upon what the ones ahead left.
func TestKe3ManyCrashes(t *testing.T) {
	for seed := range 100 {
		x := dice(3935559000370003845 + 7919*seed)
		d := newDisk(t, 10+x.below(60))
		h := &history{ledgers: []api.Ledger{{}}}
		for n := range 25 {
			must(t, "Fuse", d.Fuse(x.below(60)), api.OK)
			run(t, d, h, x.steps(12))
			crash(t, d, pick(&x, survivors(&x, d.Waits())...)...)
			if x.below(2) == 0 {
				h.beginning(t, fmt.Sprintf("run %d, crash %d", seed, n), opened(t, d).Ledger())
				continue
			}
			// Read alone, without a writing of it: a copy of the disk is opened.
			h.beginning(t, fmt.Sprintf("run %d, crash %d", seed, n), opened(t, diskOf(t, bytesOf(t, d))).Ledger())
		}
	}
}

// TestKe3TornHead: a head that is torn at each byte: the ledger is there, of the turn ahead or of the new one.
func TestKe3TornHead(t *testing.T) {
	l := busy(t)
	for _, turn := range []int{1, 2, 254, 255, 256, 65535, 1<<24 - 1, lastTurn - 2} {
		for kept := range 33 {
			what := fmt.Sprintf("turn %d, %d bytes", turn, kept)
			image := laid(t, signs(60), turn, recordsOf(l)...)
			if turn > 1 {
				image = laid(t, image, turn-1, endRecord(7))
			}
			d := diskOf(t, image)
			must(t, "Fuse", d.Fuse((60-2)/2+2), api.OK)
			refusesOpen(t, what, d, api.ErrOff)
			if d.Waits() != 1 {
				t.Fatalf("%s: %d writes wait", what, d.Waits())
			}
			crash(t, d, kept)
			k := opened(t, d)
			// The head is the new one from where both are the same on.
			old, next := image[(turn+1)%2*32:(turn+1)%2*32+32], head(turn+1)
			want := turn + 1
			if next[:kept]+old[kept:] == next {
				want++
			}
			has(t, what, k, want, l)
		}
	}
}

// TestKe3AreaFirst: no part of the area waits any more when the head is written: if the head survives, so does what it stands for.
func TestKe3AreaFirst(t *testing.T) {
	d := newDisk(t, 60)
	k := opened(t, d)
	submits(t, k, receive("s", "x", 9), hold("s", "x", 2, 0))
	want := k.Ledger()
	must(t, "Fuse", d.Fuse(29+2), api.OK)
	must(t, "Checkpoint", k.Checkpoint(), api.ErrOff)
	if d.Waits() != 1 {
		t.Errorf("%d writes wait, want the head's alone", d.Waits())
	}
	crash(t, d, 32)
	has(t, "the head survives", opened(t, d), 3, want)
}

// TestKe3NoneAhead: operations that were done and not sure survive together with a checkpoint, or an Open.
func TestKe3NoneAhead(t *testing.T) {
	for _, lay := range []func(d *disk.Disk, k *keep.Keep) api.Errno{
		func(_ *disk.Disk, k *keep.Keep) api.Errno { return k.Sync() },
		func(_ *disk.Disk, k *keep.Keep) api.Errno { return k.Checkpoint() },
		func(d *disk.Disk, _ *keep.Keep) api.Errno { _, e := keep.Open(d); return e },
	} {
		d := newDisk(t, 60)
		k := opened(t, d)
		submits(t, k, receive("s", "x", 9), hold("s", "x", 2, 0))
		want := k.Ledger()
		must(t, "laid", lay(d, k), api.OK)
		crash(t, d)
		if got := opened(t, d).Ledger(); !same(got, want) {
			t.Errorf("%s, want %s", short(got), short(want))
		}
	}
}

// TestKe3EachByte: an operation torn at each byte of its sectors is there just as a whole, the one ahead of it always.
func TestKe3EachByte(t *testing.T) {
	ahead, torn := receive("s", "x", 5), hold("s", "x", 5, api.MaxInt)
	for first := range 33 {
		for last := range 33 {
			d := newDisk(t, 60)
			k := opened(t, d)
			submits(t, k, ahead)
			syncs(t, k)
			submits(t, k, torn)
			if d.Waits() != 3 {
				t.Fatalf("%d writes wait, want 3", d.Waits())
			}
			written := bytesOf(t, d)
			crash(t, d, first, 32, last)
			// Behind the record lie noughts, and some of its own bytes are noughts: it is whole, where the disk is as it was written.
			want := behind(t, api.Ledger{}, ahead)
			if bytesOf(t, d) == written {
				want = behind(t, want, torn)
			}
			has(t, fmt.Sprintf("%d and %d bytes", first, last), opened(t, d), 2, want)
		}
	}
}
