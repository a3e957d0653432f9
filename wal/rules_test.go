package wal_test

import (
	"fmt"
	"slices"
	"strings"
	"testing"

	"quayside/api"
	"quayside/disk"
	"quayside/wal"
)

var oddNumbers = []int{api.MinInt, api.MinInt + 1, -1 << 31, -4097, -1, 0, 1, 2, 31, 32, 33, 4095, 4096, 4097, lastTurn, 1 << 31, 1 << 32, api.MaxInt - 1, api.MaxInt}

var oddTexts = []string{"", "\x00", "x", "\xff\xfe", rawBytes(1, "a"), rawBytes(1, "a")[:9], rawBytes(1, "a")[:10], "\x01\x00\x00\x00\xff\xff\x00\x00\x00\x00x", strings.Repeat("\x00", 1024), strings.Repeat("\xff", 1025), strings.Repeat("\x01\x00\x00\x00\x01", 1<<14)}

// tell is all that can be asked of a log without a change.
func tell(l *wal.Log) string { return fmt.Sprintf("%q %d", l.Records(), l.Used()) }

// groups are ones of every kind.
func groups() [][]string {
	out := [][]string{nil, {}, slices.Repeat([]string{"r"}, 20000), oddTexts}
	for _, s := range oddTexts {
		out = append(out, []string{s}, []string{"a", s}, []string{s, "a"})
	}
	return out
}

// TestR1: every call ends without a panic, of any log, with the power on and off, at odd numbers, texts and groups.
func TestR1(t *testing.T) {
	defer func() {
		if r := recover(); r != nil {
			t.Error("panic:", r)
		}
	}()
	off := newDisk(t, 3)
	putOff(t, off)
	logs := []*wal.Log{nil, {}}
	for _, d := range []*disk.Disk{nil, {}, newDisk(t, 1), newDisk(t, 33), newDisk(t, 4096), off} {
		for _, from := range oddNumbers {
			for _, to := range oddNumbers {
				for _, turn := range []int{api.MinInt, -1, 0, 1, lastTurn, 1 << 31, api.MaxInt} {
					l, e := wal.Open(d, from, to, turn)
					if (l == nil) != (e != api.OK) {
						t.Errorf("Open(%d, %d, %d): %v, error %d", from, to, turn, l, e)
					}
					if turn == 1 {
						logs = append(logs, l)
					}
				}
			}
		}
	}
	for _, l := range logs {
		for _, group := range groups() {
			l.Add(group)
		}
		l.Sync()
		tell(l)
	}
	for _, turn := range oddNumbers {
		for _, s := range oddTexts {
			wal.Frame(turn, s)
			if l, n := wal.Scan(turn, s); n < 0 || n > len(s) || (n == 0) != (len(l) == 0) {
				t.Errorf("Scan(%d, %.40q): %d records, of %d bytes", turn, s, len(l), n)
			}
		}
	}
}

// refused are calls that are refused, and not for want of power.
func refused(t *testing.T, d *disk.Disk, l *wal.Log) {
	t.Helper()
	for _, group := range [][]string{{""}, {"a", ""}, {"a", strings.Repeat("r", 1025)}} {
		must(t, "Add", l.Add(group), api.ErrArg)
	}
	must(t, "Add", l.Add([]string{"a", strings.Repeat("r", 120)}), api.ErrFull)
	refusesOpen(t, d, 0, 5, 1, api.ErrArg)
	refusesOpen(t, d, 1, 1, 1, api.ErrArg)
	refusesOpen(t, d, 0, 4, 0, api.ErrArg)
}

// TestR2: of two logs the one on which calls are refused between the others answers as the other one does, and so does its disk, to the end of a fuse and behind a crash.
func TestR2(t *testing.T) {
	a, b := newDisk(t, 4), newDisk(t, 4)
	la, lb := opened(t, a, 0, 4, 1), opened(t, b, 0, 4, 1)
	add := func(group ...string) func(*disk.Disk, *wal.Log) api.Errno {
		return func(_ *disk.Disk, l *wal.Log) api.Errno { return l.Add(group) }
	}
	sync := func(_ *disk.Disk, l *wal.Log) api.Errno { return l.Sync() }
	for k, do := range []func(*disk.Disk, *wal.Log) api.Errno{
		add("one"), add("two", "three"), sync, add(),
		func(d *disk.Disk, _ *wal.Log) api.Errno { return d.Fuse(2) },
		add("four"), add("five is longer"), add("six"), sync,
	} {
		was := tell(la)
		refused(t, a, la)
		if now := tell(la); now != was {
			t.Errorf("ahead of step %d: %s, then %s", k, was, now)
		}
		if x, y := do(a, la), do(b, lb); x != y || tell(la) != tell(lb) || a.Waits() != b.Waits() || a.Off() != b.Off() {
			t.Errorf("step %d: error %d, %s, without what is refused: error %d, %s", k, x, tell(la), y, tell(lb))
		}
	}
	crash(t, a, 32, 20)
	crash(t, b, 32, 20)
	if bytesOf(t, a) != bytesOf(t, b) {
		t.Errorf("%q, without what is refused: %q", bytesOf(t, a), bytesOf(t, b))
	}
	has(t, opened(t, a, 0, 4, 1), "one", "two", "three", "four")
}

// TestR2Zero: beside an error there is nothing else.
func TestR2Zero(t *testing.T) {
	for _, turn := range noTurns {
		if s, e := wal.Frame(turn, "a"); s != "" || e != api.ErrArg {
			t.Errorf("Frame(%d): %q, error %d", turn, s, e)
		}
		refusesOpen(t, newDisk(t, 1), 0, 1, turn, api.ErrArg)
	}
	d := fill(t, 2, 0, rawAll(1, "a"))
	putOff(t, d)
	refusesOpen(t, d, 0, 2, 1, api.ErrOff)
}

// TestR3Group: the list is not changed, not kept, and not read beyond its end.
func TestR3Group(t *testing.T) {
	room := []string{"a", "b", "", "behind"}
	d := newDisk(t, 4)
	l := opened(t, d, 0, 4, 1)
	adds(t, l, room[:2]...)
	if !slices.Equal(room, []string{"a", "b", "", "behind"}) {
		t.Errorf("the list is changed: %q", room)
	}
	room[0], room[1] = "x", "y"
	has(t, l, "a", "b")
	adds(t, l, room[3:]...)
	has(t, l, "a", "b", "behind")
	has(t, opened(t, d, 0, 4, 1), "a", "b", "behind")
}

// TestR3Answers: lists that are told are new ones: one that is changed, or made longer, is changed for nobody else.
func TestR3Answers(t *testing.T) {
	d := newDisk(t, 9)
	l := opened(t, d, 0, 9, 1)
	for k := range 9 {
		adds(t, l, fmt.Sprint("r", k))
	}
	want := []string{"r0", "r1", "r2", "r3", "r4", "r5", "r6", "r7", "r8"}
	one, other := l.Records(), l.Records()
	one[0] = "changed"
	_ = append(one, "longer")
	_ = append(one[:3], "shorter")
	if !slices.Equal(other, want) {
		t.Errorf("another answer: %q", other)
	}
	has(t, l, want...)
	adds(t, l, "r9")
	if !slices.Equal(other, want) {
		t.Errorf("an answer of before: %q", other)
	}
	has(t, l, append(want, "r9")...)
	again := opened(t, d, 0, 9, 1)
	clear(again.Records())
	has(t, again, append(want, "r9")...)
	s := rawAll(1, "a", "b")
	scanned, _ := wal.Scan(1, s)
	scanned[0] = "changed"
	scans(t, 1, s, 22, "a", "b")
}

// TestR3Texts: a piece of a text is taken alone.
func TestR3Texts(t *testing.T) {
	whole := "ahead" + rawAll(1, "a", "b")
	scans(t, 1, whole[5:16], 11, "a")
	scans(t, 1, whole[5:26], 11, "a")
	scans(t, 1, whole[5:27], 22, "a", "b")
	if s, e := wal.Frame(1, whole[1:3]); s != rawBytes(1, "he") || e != api.OK {
		t.Errorf("%q, error %d", s, e)
	}
}

// TestR4: logs answer alike if they are called alike, whatever is done to others between.
func TestR4(t *testing.T) {
	run := func(between func()) string {
		x := dice(77003)
		d := newDisk(t, 40)
		l, told := opened(t, d, 2, 40, 5), ""
		for range 60 {
			told += fmt.Sprint(l.Add(x.group()), d.Waits())
			between()
			if x.below(5) == 0 {
				told += fmt.Sprint(l.Sync())
			}
			told += tell(l) + "\n"
		}
		return told + bytesOf(t, d)
	}
	alone := run(func() {})
	beside := newDisk(t, 40)
	other := opened(t, beside, 2, 40, 5)
	if together := run(func() {
		other.Add([]string{"other"})
		other.Sync()
		wal.Frame(5, "other")
		wal.Scan(5, rawAll(5, "other", "one"))
		var none *wal.Log
		none.Add([]string{"none"})
	}); alone != together {
		t.Error("a log answers otherwise where others are called")
	}
}
