package wal_test

import (
	"fmt"
	"slices"
	"strings"
	"testing"

	"quayside/api"
	"quayside/wal"
)

// model is a log that works the whole disk out from its records, upon the bytes that were there at first.
type model struct {
	under    string
	from, to int
	turn     int
	records  []string
}

func (m *model) bytes() string { return rawAll(uint32(m.turn), m.records...) }

func (m *model) disk() string { return upon(m.under, m.from*32, m.bytes()) }

// add is what Add answers, and how many sectors it writes, with the power on.
func (m *model) add(group []string) (api.Errno, int) {
	for _, s := range group {
		if len(s) < 1 || len(s) > 1024 {
			return api.ErrArg, 0
		}
	}
	start := len(m.bytes())
	end := start + len(rawAll(1, group...))
	if end > (m.to-m.from)*32 {
		return api.ErrFull, 0
	}
	m.records = append(m.records, group...)
	writes := 0
	for at := range m.to - m.from {
		if at*32 < end && at*32+32 > start && start < end {
			writes++
		}
	}
	return api.OK, writes
}

// TestWl2Wl3Model holds logs against models over long runs, upon a disk of any bytes.
func TestWl2Wl3Model(t *testing.T) {
	for seed := range 150 {
		x := dice(6364136223846793005 + 1013*seed)
		n := 3 + x.below(20)
		from := x.below(n)
		to := from + 1 + x.below(n-from)
		m := &model{from: from, to: to, turn: 1 + x.below(lastTurn)}
		d := fill(t, n, 0, x.text(32*n))
		m.under = bytesOf(t, d)
		l := opened(t, d, from, to, m.turn)
		for step := range 40 {
			group := x.group()
			if len(group) > 0 && x.below(8) == 0 {
				group[x.below(len(group))] = strings.Repeat("b", 1025*x.below(2))
			}
			before := d.Waits()
			want, writes := m.add(group)
			if e := l.Add(group); e != want || d.Waits()-before != writes {
				t.Fatalf("run %d, step %d: Add(%.60q): error %d, %d writes, want error %d, %d writes", seed, step, group, e, d.Waits()-before, want, writes)
			}
			if x.below(4) == 0 {
				syncs(t, l)
			}
			if x.below(4) == 0 {
				l = opened(t, d, from, to, m.turn)
			}
			if bytesOf(t, d) != m.disk() {
				t.Fatalf("run %d, step %d: the disk is %q, want %q", seed, step, bytesOf(t, d), m.disk())
			}
			has(t, l, m.records...)
		}
	}
}

// history is what was done to a log up to a crash: all that was begun to be added, and how much of it was sure.
type history struct {
	added []string
	sure  int
}

// run adds groups and syncs between, till the power goes off or nothing is left to be done.
func run(x *dice, l *wal.Log, steps int) history {
	var h history
	for range steps {
		if x.below(4) == 0 {
			if l.Sync() != api.OK {
				return h
			}
			h.sure = len(h.added)
			continue
		}
		group := x.group()
		switch l.Add(group) {
		case api.OK:
			h.added = append(h.added, group...)
		case api.ErrOff:
			h.added = append(h.added, group...)
			return h
		}
	}
	return h
}

// survivors is how many bytes survive of each write: all, none, or any number.
func survivors(x *dice, n int) []int {
	kind := x.below(5)
	keep := make([]int, n)
	for k := range keep {
		switch {
		case kind == 0 || kind == 1 && x.below(2) == 0:
			keep[k] = 32
		case kind >= 2:
			keep[k] = x.below(40) - 4
		}
	}
	return keep[:x.below(n+1)]
}

// isBeginning tells that records are the first ones of those that were added, with all that were sure.
func isBeginning(records []string, h history) bool {
	return len(records) >= h.sure && len(records) <= len(h.added) && slices.Equal(records, h.added[:len(records)])
}

// TestWl4: behind a crash at any writing, whatever survives, a log has a beginning of what was added, with all that was sure; it can be gone on with.
func TestWl4(t *testing.T) {
	for seed := range 120 {
		for fuse := range 25 {
			x := dice(2862933555777941757 + 7919*seed)
			d := fill(t, 30, 0, x.text(32*30))
			turn := 1 + x.below(9)
			l := opened(t, d, 3, 27, turn)
			outside := bytesOf(t, d)
			must(t, "Fuse", d.Fuse(fuse), api.OK)
			h := run(&x, l, 12)
			crash(t, d, survivors(&x, d.Waits())...)
			l = opened(t, d, 3, 27, turn)
			got := l.Records()
			if !isBeginning(got, h) {
				t.Fatalf("run %d, fuse %d: %d sure, added %.20q, survived %.20q", seed, fuse, h.sure, h.added, got)
			}
			has(t, opened(t, d, 3, 27, turn), got...)
			now := bytesOf(t, d)
			if now[:96] != outside[:96] || now[27*32:] != outside[27*32:] {
				t.Fatalf("run %d, fuse %d: a sector outside the log is another one", seed, fuse)
			}
			adds(t, l, "behind")
			syncs(t, l)
			crash(t, d)
			want := append(got, "behind")
			if again := opened(t, d, 3, 27, turn).Records(); len(again) < len(want) || !slices.Equal(again[:len(want)], want) {
				t.Fatalf("run %d, fuse %d: gone on with: %.20q, want %.20q", seed, fuse, again, want)
			}
		}
	}
}

// TestWl4EachByte: one record behind a sync, torn at each byte of its sectors, upon another turn's records.
func TestWl4EachByte(t *testing.T) {
	for first := 0; first <= 32; first++ {
		for second := 0; second <= 32; second++ {
			d := fill(t, 4, 0, rawAll(1, "an older one", strings.Repeat("o", 60), "old"))
			l := opened(t, d, 0, 4, 2)
			has(t, l)
			adds(t, l, "sure")
			syncs(t, l)
			adds(t, l, strings.Repeat("u", 30))
			waits(t, d, 2)
			crash(t, d, first, second)
			want := []string{"sure"}
			if first == 32 && second >= 54-32 {
				want = append(want, strings.Repeat("u", 30))
			}
			has(t, opened(t, d, 0, 4, 2), want...)
			has(t, opened(t, d, 0, 4, 1))
		}
	}
}

// TestWl4LaterAlone: where a later write survives and an earlier one does not, none of both records is there.
func TestWl4LaterAlone(t *testing.T) {
	d := newDisk(t, 8)
	l := opened(t, d, 0, 8, 1)
	adds(t, l, strings.Repeat("a", 22))
	syncs(t, l)
	adds(t, l, strings.Repeat("b", 22))
	adds(t, l, strings.Repeat("c", 22))
	crash(t, d, 0, 32)
	has(t, opened(t, d, 0, 8, 1), strings.Repeat("a", 22))
}

// TestWl4Shared: a sector that is written by several groups has, whichever of its writes survive, what was sure in it.
func TestWl4Shared(t *testing.T) {
	for mask := range 8 {
		d := newDisk(t, 2)
		l := opened(t, d, 0, 2, 1)
		adds(t, l, "a")
		syncs(t, l)
		for _, s := range []string{"b", "c", "d"} {
			adds(t, l, s)
		}
		waits(t, d, 4)
		keep := []int{32 * (mask & 1), 32 * (mask >> 1 & 1), 32 * (mask >> 1 & 1), 32 * (mask >> 2)}
		crash(t, d, keep...)
		h := history{added: []string{"a", "b", "c", "d"}, sure: 1}
		if got := opened(t, d, 0, 2, 1).Records(); !isBeginning(got, h) {
			t.Errorf("kept %d: %q", keep, got)
		}
	}
}

// TestWl4TwoLogs: logs in sectors of their own do not meet each other, but in a sync.
func TestWl4TwoLogs(t *testing.T) {
	d := newDisk(t, 6)
	a, b := opened(t, d, 0, 3, 1), opened(t, d, 3, 6, 1)
	for k := range 5 {
		adds(t, a, fmt.Sprint("a", k))
		adds(t, b, fmt.Sprint("b", k))
	}
	syncs(t, b)
	adds(t, a, "lost")
	crash(t, d)
	has(t, opened(t, d, 0, 3, 1), "a0", "a1", "a2", "a3", "a4")
	has(t, opened(t, d, 3, 6, 1), "b0", "b1", "b2", "b3", "b4")
}
