package disk_test

import (
	"fmt"
	"slices"
	"strings"
	"testing"

	"quayside/api"
	"quayside/disk"
)

var oddNumbers = []int{api.MinInt, api.MinInt + 1, -4097, -32, -1, 0, 1, 2, 31, 32, 33, 4095, 4096, 4097, 1 << 31, 1 << 32, api.MaxInt - 1, api.MaxInt}

var oddTexts = []string{"", "x", full("x")[1:], full("x"), full("x") + "x", noughts, full("\xff"), full("\u00e4"), strings.Repeat("\xff", 1<<16)}

// tell is all that can be asked of a disk without a change.
func tell(d *disk.Disk) string {
	s := fmt.Sprint(d.Size(), d.Waits(), d.Off())
	for at := -1; at <= d.Size(); at++ {
		text, e := d.Read(at)
		s += fmt.Sprintf(" %q %d", text, e)
	}
	return s
}

// callAll calls every method at a number and a text.
func callAll(d *disk.Disk, n int, s string) string {
	e := []api.Errno{d.Write(n, s), d.Flush(), d.Fuse(n), d.Write(0, s), d.Crash([]int{n, n, n})}
	text, readErr := d.Read(n)
	return fmt.Sprintf("%d %q %d %d %d %t", e, text, readErr, d.Size(), d.Waits(), d.Off())
}

// TestR1: every call ends without a panic, of any disk, at odd numbers and texts.
func TestR1(t *testing.T) {
	defer func() {
		if r := recover(); r != nil {
			t.Error("panic:", r)
		}
	}()
	for _, n := range oddNumbers {
		if d, e := disk.New(n); (d == nil) != (e != api.OK) {
			t.Errorf("New(%d): %v, error %d", n, d, e)
		}
	}
	for _, d := range []*disk.Disk{nil, {}, newDisk(t, 1), newDisk(t, 33), newDisk(t, 4096)} {
		for _, n := range oddNumbers {
			for _, s := range oddTexts {
				callAll(d, n, s)
			}
			d.Crash(slices.Repeat([]int{n}, 10000))
		}
		d.Crash(nil)
		d.Crash([]int{})
	}
}

// refused are calls that a disk of two sectors refuses by ErrArg, with its power on or off.
func refused(t *testing.T, d *disk.Disk) {
	t.Helper()
	for _, at := range []int{api.MinInt, -1, 2, api.MaxInt} {
		must(t, "Write beyond", d.Write(at, full("r")), api.ErrArg)
		refusesRead(t, d, at, api.ErrArg)
	}
	for _, s := range []string{"", full("r")[1:], full("r") + "r"} {
		must(t, "Write of another length", d.Write(1, s), api.ErrArg)
	}
	if _, e := disk.New(0); e != api.ErrArg {
		t.Errorf("New(0): error %d", e)
	}
}

// TestR2: of two disks the one on which calls are refused between the others answers as the other one does, to the end of a fuse and behind a crash.
func TestR2(t *testing.T) {
	a, b := newDisk(t, 2), newDisk(t, 2)
	for k, do := range []func(d *disk.Disk) api.Errno{
		func(d *disk.Disk) api.Errno { return d.Write(0, full("a")) },
		func(d *disk.Disk) api.Errno { return d.Flush() },
		func(d *disk.Disk) api.Errno { return d.Fuse(3) },
		func(d *disk.Disk) api.Errno { return d.Write(0, full("b")) },
		func(d *disk.Disk) api.Errno { return d.Write(1, full("c")) },
		func(d *disk.Disk) api.Errno { return d.Write(0, full("d")) },
		func(d *disk.Disk) api.Errno { return d.Write(1, full("e")) },
		func(d *disk.Disk) api.Errno { return d.Flush() },
		func(d *disk.Disk) api.Errno { return d.Fuse(0) },
		func(d *disk.Disk) api.Errno { return d.Crash([]int{9, 5, 3, 32}) },
		func(d *disk.Disk) api.Errno { return d.Flush() },
		func(d *disk.Disk) api.Errno { return d.Fuse(0) },
		func(d *disk.Disk) api.Errno { return d.Flush() },
		func(d *disk.Disk) api.Errno { return d.Crash(nil) },
	} {
		was := tell(a)
		refused(t, a)
		if now := tell(a); now != was {
			t.Errorf("ahead of step %d: %s, then %s", k, was, now)
		}
		if x, y := do(a), do(b); x != y || tell(a) != tell(b) {
			t.Errorf("step %d: error %d, %s, without what is refused: error %d, %s", k, x, tell(a), y, tell(b))
		}
	}
	reads(t, a, 0, part("d", 3, part("b", 9, full("a"))))
	reads(t, a, 1, part("c", 5, noughts))
}

// TestR2Off: what is refused for want of power is not written, and makes nothing sure.
func TestR2Off(t *testing.T) {
	d := newDisk(t, 1)
	write(t, d, 0, full("a"))
	fuse(t, d, 0)
	for range 3 {
		must(t, "Write", d.Write(0, full("b")), api.ErrOff)
		must(t, "Flush", d.Flush(), api.ErrOff)
		waits(t, d, 1)
	}
	crash(t, d, 16, 32, 32)
	reads(t, d, 0, part("a", 16, noughts))
}

// TestR3Keep: the list is not changed, not kept, and not read beyond its end; nil is the empty one.
func TestR3Keep(t *testing.T) {
	room := []int{4, 40, -4, 32, 32, 32}
	d := newDisk(t, 2)
	for _, at := range []int{0, 1, 0, 1, 0} {
		write(t, d, at, full("w"))
	}
	crash(t, d, room[:2]...)
	if !slices.Equal(room, []int{4, 40, -4, 32, 32, 32}) {
		t.Errorf("the list is changed: %d", room)
	}
	clear(room)
	reads(t, d, 0, part("w", 4, noughts))
	reads(t, d, 1, full("w"))
	for _, none := range [][]int{nil, {}, room[:0]} {
		write(t, d, 0, full("x"))
		must(t, "Crash", d.Crash(none), api.OK)
		reads(t, d, 0, part("w", 4, noughts))
	}
}

// TestR3Texts: a piece of a text is taken alone, and a text that was read stays as it was.
func TestR3Texts(t *testing.T) {
	buffer := []byte("ahead" + full("p") + "behind")
	d := newDisk(t, 1)
	write(t, d, 0, string(buffer)[5:37])
	clear(buffer)
	reads(t, d, 0, full("p"))
	was, _ := d.Read(0)
	write(t, d, 0, full("q"))
	crash(t, d, 0, 7)
	if was != full("p") {
		t.Errorf("what was read is %q by now", was)
	}
	sure, _ := d.Read(0)
	write(t, d, 0, full("r"))
	flush(t, d)
	if sure != part("q", 7, noughts) {
		t.Errorf("what was read is %q by now", sure)
	}
}

// TestR4: disks answer alike if they are called alike, whatever is done to others between.
func TestR4(t *testing.T) {
	run := func(between func()) string {
		d, told := newDisk(t, 3), ""
		x := dice(424243)
		m := &model{n: 3, fuse: -1}
		for range 200 {
			step(&x, d, m)
			between()
			told += tell(d) + "\n"
		}
		return told
	}
	alone := run(func() {})
	other := newDisk(t, 3)
	beside := run(func() {
		for k, s := range oddTexts {
			callAll(other, k, s)
		}
		callAll(newDisk(t, 3), 1, full("n"))
	})
	if alone != beside {
		t.Error("a disk answers otherwise where others are called")
	}
}

// TestR4Refill: a list of writes that was cleared brings nothing of them back.
func TestR4Refill(t *testing.T) {
	d := newDisk(t, 2)
	for range 20 {
		write(t, d, 0, full("a"))
	}
	flush(t, d)
	write(t, d, 1, full("b"))
	waits(t, d, 1)
	crash(t, d, slices.Repeat([]int{32}, 30)...)
	reads(t, d, 0, full("a"))
	reads(t, d, 1, full("b"))
	for range 5 {
		write(t, d, 0, full("c"))
	}
	crash(t, d)
	flush(t, d)
	reads(t, d, 0, full("a"))
}
