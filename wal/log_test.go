package wal_test

import (
	"fmt"
	"slices"
	"strings"
	"testing"

	"quayside/api"
	"quayside/disk"
	"quayside/wal"
)

// refusesOpen: beside an error there is no log.
func refusesOpen(t *testing.T, d *disk.Disk, from, to, turn int, want api.Errno) {
	t.Helper()
	if l, e := wal.Open(d, from, to, turn); l != nil || e != want {
		t.Errorf("Open(%d, %d, %d): %v, error %d, want none, error %d", from, to, turn, l, e, want)
	}
}

func TestWl2OpenNoDisk(t *testing.T) {
	for _, d := range []*disk.Disk{nil, {}, new(disk.Disk)} {
		for from := -1; from <= 1; from++ {
			for to := -1; to <= 2; to++ {
				refusesOpen(t, d, from, to, 1, api.ErrArg)
				refusesOpen(t, d, from, to, 0, api.ErrArg)
			}
		}
	}
}

func TestWl2OpenSectors(t *testing.T) {
	odd := []int{api.MinInt, -4096, -2, -1, 0, 1, 2, 3, 4, 5, 6, 7, 4096, 1 << 32, 1<<32 + 3, api.MaxInt}
	d := newDisk(t, 5)
	for _, from := range odd {
		for _, to := range odd {
			if from < 0 || to > 5 || from >= to {
				refusesOpen(t, d, from, to, 1, api.ErrArg)
				continue
			}
			l := opened(t, d, from, to, 1)
			has(t, l)
			room := (to - from) * 32
			must(t, "Add of a byte too much", l.Add([]string{strings.Repeat("r", room-9)}), api.ErrFull)
			adds(t, l, strings.Repeat("r", room-10))
			crash(t, d)
		}
	}
	one := newDisk(t, 1)
	has(t, opened(t, one, 0, 1, 1))
	refusesOpen(t, one, 0, 0, 1, api.ErrArg)
	refusesOpen(t, one, 1, 1, 1, api.ErrArg)
	refusesOpen(t, one, 0, 2, 1, api.ErrArg)
	most := newDisk(t, 4096)
	has(t, opened(t, most, 0, 4096, 1))
	has(t, opened(t, most, 4095, 4096, 1))
	refusesOpen(t, most, 0, 4097, 1, api.ErrArg)
}

func TestWl2OpenTurn(t *testing.T) {
	d := newDisk(t, 3)
	for _, turn := range noTurns {
		refusesOpen(t, d, 0, 3, turn, api.ErrArg)
	}
	for _, turn := range []int{1, 2, lastTurn - 1, lastTurn} {
		l := opened(t, d, 0, 3, turn)
		has(t, l)
		adds(t, l, fmt.Sprint(turn))
		has(t, opened(t, d, 0, 3, turn), fmt.Sprint(turn))
	}
}

// TestWl2OpenOff: an argument that may not be is told ahead of a power that is off; a fuse is no matter of what is read.
func TestWl2OpenOff(t *testing.T) {
	d := newDisk(t, 4)
	must(t, "Fuse(0)", d.Fuse(0), api.OK)
	has(t, opened(t, d, 0, 4, 1))
	if d.Off() {
		t.Error("Open put the power off")
	}
	putOff(t, d)
	refusesOpen(t, d, 0, 4, 1, api.ErrOff)
	refusesOpen(t, d, 3, 4, lastTurn, api.ErrOff)
	for _, x := range [][3]int{{-1, 4, 1}, {0, 5, 1}, {0, -1, 1}, {5, 6, 1}, {2, 2, 1}, {3, 2, 1}, {0, 4, 0}, {0, 4, -1}, {0, 4, 1 << 31}} {
		refusesOpen(t, d, x[0], x[1], x[2], api.ErrArg)
	}
	crash(t, d)
	has(t, opened(t, d, 0, 4, 1))
}

// TestWl2Records: those of bytes that are there, from the first sector of the log on and not beyond its last one.
func TestWl2Records(t *testing.T) {
	long := strings.Repeat("long", 20)
	d := fill(t, 9, 2, rawAll(6, "first", long, "third", "fourth"))
	has(t, opened(t, d, 2, 9, 6), "first", long, "third", "fourth")
	has(t, opened(t, d, 2, 7, 6), "first", long, "third", "fourth")
	has(t, opened(t, d, 2, 6, 6), "first", long, "third")
	has(t, opened(t, d, 2, 5, 6), "first")
	has(t, opened(t, d, 2, 3, 6), "first")
	has(t, opened(t, d, 1, 9, 6))
	has(t, opened(t, d, 3, 9, 6))
	has(t, opened(t, d, 2, 9, 5))
	waits(t, d, 0)
}

// TestWl2RecordsFill: a record that ends with the log's last byte, and one that is cut off there.
func TestWl2RecordsFill(t *testing.T) {
	just := strings.Repeat("j", 64-11-10)
	d := fill(t, 3, 0, rawAll(1, "a", just))
	has(t, opened(t, d, 0, 2, 1), "a", just)
	has(t, opened(t, d, 0, 1, 1), "a")
	d = fill(t, 3, 0, rawAll(1, "a", just+"j"))
	has(t, opened(t, d, 0, 2, 1), "a")
	has(t, opened(t, d, 0, 3, 1), "a", just+"j")
}

// TestWl2RecordsWhole: a byte that did not survive takes its record and those behind it.
func TestWl2RecordsWhole(t *testing.T) {
	all := rawAll(2, "one", "two", "three")
	for at := range all {
		torn := upon(all, at, string([]byte{all[at] ^ 0x40}))
		want := []string{"one", "two", "three"}
		switch {
		case at < 13:
			want = want[:0]
		case at < 26:
			want = want[:1]
		default:
			want = want[:2]
		}
		has(t, opened(t, fill(t, 3, 0, torn), 0, 3, 2), want...)
	}
}

// TestWl2RecordsOfMost: as many records as the greatest log has room for.
func TestWl2RecordsOfMost(t *testing.T) {
	d := newDisk(t, 4096)
	l := opened(t, d, 0, 4096, 1)
	var group []string
	for k := range 4096 * 32 / 16 {
		group = append(group, fmt.Sprintf("%06d", k))
	}
	adds(t, l, group...)
	waits(t, d, 4096)
	has(t, l, group...)
	must(t, "Add to a log that is full", l.Add([]string{"x"}), api.ErrFull)
	must(t, "Add of nothing to it", l.Add(nil), api.OK)
	has(t, opened(t, d, 0, 4096, 1), group...)
}

// TestWl3Add: the records are there at once, and so is what Open finds.
func TestWl3Add(t *testing.T) {
	d := fill(t, 40, 0, "")
	l := opened(t, d, 1, 39, 1)
	adds(t, l, "one")
	has(t, l, "one")
	adds(t, l, "two", "three", "\x00")
	has(t, l, "one", "two", "three", "\x00")
	most := strings.Repeat("\xff", 1024)
	adds(t, l, most)
	has(t, l, "one", "two", "three", "\x00", most)
	syncs(t, l)
	has(t, l, "one", "two", "three", "\x00", most)
	again := opened(t, d, 1, 39, 1)
	has(t, again, "one", "two", "three", "\x00", most)
	adds(t, again, "one")
	has(t, opened(t, d, 1, 39, 1), "one", "two", "three", "\x00", most, "one")
}

// TestWl3AddSame: a group is the same as its records one by one, but for how often a sector is written.
func TestWl3AddSame(t *testing.T) {
	group := []string{"a", strings.Repeat("b", 50), "c", strings.Repeat("d", 12)}
	together, single := newDisk(t, 6), newDisk(t, 6)
	adds(t, opened(t, together, 0, 6, 1), group...)
	l := opened(t, single, 0, 6, 1)
	for _, s := range group {
		adds(t, l, s)
	}
	if bytesOf(t, together) != bytesOf(t, single) {
		t.Errorf("together: %q, one by one: %q", bytesOf(t, together), bytesOf(t, single))
	}
	waits(t, together, 4)
	waits(t, single, 1+3+2+1)
}

// TestWl3AddPlaces: at every place in a sector, for every end, only the log's bytes are other ones, and as many sectors are written as they lie in.
func TestWl3AddPlaces(t *testing.T) {
	for ahead := 1; ahead <= 33; ahead++ {
		for n := 1; n <= 70; n++ {
			first, second := strings.Repeat("f", ahead), strings.Repeat("s", n)
			d := fill(t, 7, 0, "")
			l := opened(t, d, 1, 6, 8)
			adds(t, l, first)
			syncs(t, l)
			was := bytesOf(t, d)
			adds(t, l, second)
			start, end := 10+ahead, 20+ahead+n
			if want := upon(was, 32+start, rawBytes(8, second)); bytesOf(t, d) != want {
				t.Fatalf("%d bytes behind %d: %q, want %q", n, ahead, bytesOf(t, d), want)
			}
			waits(t, d, (end-1)/32-start/32+1)
			has(t, l, first, second)
			has(t, opened(t, d, 1, 6, 8), first, second)
		}
	}
}

// TestWl3AddWrites: each sector is written once, the first one first, with what it is to hold in the end.
func TestWl3AddWrites(t *testing.T) {
	group := []string{strings.Repeat("g", 30), "h", strings.Repeat("i", 70), "j"}
	ready := func() (*disk.Disk, *wal.Log) {
		d := fill(t, 9, 0, "")
		l := opened(t, d, 2, 9, 1)
		adds(t, l, "ahead")
		syncs(t, l)
		return d, l
	}
	d, l := ready()
	was := bytesOf(t, d)
	adds(t, l, group...)
	done := bytesOf(t, d)
	for kept := range 6 {
		d, l = ready()
		adds(t, l, group...)
		waits(t, d, 5)
		crash(t, d, slices.Repeat([]int{32}, kept)...)
		edge := 64 + 32*kept
		if want := done[:edge] + was[edge:]; bytesOf(t, d) != want {
			t.Errorf("%d writes that survive: %q, want %q", kept, bytesOf(t, d), want)
		}
	}
}

// TestWl3AddReads: the sectors at both ends are taken as they were written last.
func TestWl3AddReads(t *testing.T) {
	d := newDisk(t, 3)
	l := opened(t, d, 0, 3, 1)
	adds(t, l, "one")
	first := rawBytes(1, "one")
	must(t, "Write", d.Write(0, first+strings.Repeat("p", 19)), api.OK)
	must(t, "Write", d.Write(1, strings.Repeat("q", 32)), api.OK)
	adds(t, l, "of eight")
	second := first + rawBytes(1, "of eight")
	if got := bytesOf(t, d); got != second+"p"+strings.Repeat("q", 32)+strings.Repeat("\x00", 32) {
		t.Errorf("%q", got)
	}
	adds(t, l, "two")
	third := second + rawBytes(1, "two")
	if got := bytesOf(t, d); got != third+strings.Repeat("q", 64-len(third))+strings.Repeat("\x00", 32) {
		t.Errorf("%q", got)
	}
	has(t, l, "one", "of eight", "two")
}

// nothings are the ways to write an empty group.
func nothings() [][]string { return [][]string{nil, {}, []string{"x", ""}[:0]} }

// TestWl3AddNothing: an empty group writes nothing, wherever the log ends, and costs nothing of a fuse.
func TestWl3AddNothing(t *testing.T) {
	for n := 1; n <= 86; n++ {
		d := newDisk(t, 3)
		l := opened(t, d, 0, 3, 1)
		r := strings.Repeat("r", n)
		for _, none := range nothings() {
			must(t, "Add of nothing", l.Add(none), api.OK)
		}
		waits(t, d, 0)
		has(t, l)
		adds(t, l, r)
		syncs(t, l)
		was := bytesOf(t, d)
		must(t, "Fuse(0)", d.Fuse(0), api.OK)
		for _, none := range nothings() {
			must(t, "Add of nothing", l.Add(none), api.OK)
		}
		waits(t, d, 0)
		has(t, l, r)
		if d.Off() || bytesOf(t, d) != was {
			t.Errorf("behind a record of %d bytes: Off %t, %q, want %q", n, d.Off(), bytesOf(t, d), was)
		}
	}
}

// TestWl3AddFull: as many bytes as there are left fit, and one more does not, in one record or several.
func TestWl3AddFull(t *testing.T) {
	for sectors := 1; sectors <= 3; sectors++ {
		for ahead := 0; ahead <= sectors*32-11; ahead++ {
			ready := func() (*disk.Disk, *wal.Log, []string, int) {
				d := fill(t, 5, 0, "")
				l := opened(t, d, 1, 1+sectors, 1)
				if ahead == 0 {
					return d, l, nil, sectors * 32
				}
				adds(t, l, strings.Repeat("a", ahead))
				syncs(t, l)
				return d, l, []string{strings.Repeat("a", ahead)}, sectors*32 - 10 - ahead
			}
			d, l, held, left := ready()
			was := bytesOf(t, d)
			must(t, "Add of a byte more", l.Add([]string{strings.Repeat("r", max(left-9, 1))}), api.ErrFull)
			if left >= 21 {
				must(t, "Add of a byte more in two", l.Add([]string{"r", strings.Repeat("r", left-20)}), api.ErrFull)
			}
			waits(t, d, 0)
			has(t, l, held...)
			if bytesOf(t, d) != was {
				t.Errorf("a log that is full was written: %q, want %q", bytesOf(t, d), was)
			}
			if left >= 11 {
				just := strings.Repeat("r", left-10)
				adds(t, l, just)
				has(t, l, append(held, just)...)
				if l.Used() != sectors*32 {
					t.Errorf("Used: %d of %d", l.Used(), sectors*32)
				}
				if want := upon(was, 32+sectors*32-left, rawBytes(1, just)); bytesOf(t, d) != want {
					t.Errorf("%q, want %q", bytesOf(t, d), want)
				}
				must(t, "Add of the least behind it", l.Add([]string{"r"}), api.ErrFull)
			}
			d, l, held, left = ready()
			if left >= 22 {
				adds(t, l, "r", strings.Repeat("s", left-21))
				has(t, l, append(held, "r", strings.Repeat("s", left-21))...)
				has(t, opened(t, d, 1, 1+sectors, 1), l.Records()...)
			}
		}
	}
}

// TestWl3AddRefused: where one record may not be nothing is written, wherever it stands in its group.
func TestWl3AddRefused(t *testing.T) {
	for _, bad := range []string{"", strings.Repeat("r", 1025), strings.Repeat("r", 1<<16), strings.Repeat("r", 1<<16+1)} {
		d := newDisk(t, 100)
		l := opened(t, d, 0, 100, 1)
		adds(t, l, "ahead")
		syncs(t, l)
		was := bytesOf(t, d)
		for _, group := range [][]string{{bad}, {bad, "a"}, {"a", bad}, {"a", bad, "b"}, {"a", "b", "c", bad}, {bad, bad}} {
			must(t, "Add of a record that may not be", l.Add(group), api.ErrArg)
		}
		waits(t, d, 0)
		has(t, l, "ahead")
		if bytesOf(t, d) != was {
			t.Error("a group that may not be was written")
		}
		adds(t, l, "behind", strings.Repeat("r", 1024))
		has(t, opened(t, d, 0, 100, 1), "ahead", "behind", strings.Repeat("r", 1024))
	}
}

// TestWl3ErrorsOrder: a record that may not be is told ahead of a log that is full, and that ahead of a power that is off.
func TestWl3ErrorsOrder(t *testing.T) {
	d := newDisk(t, 2)
	l := opened(t, d, 0, 2, 1)
	long, wrong := strings.Repeat("r", 55), strings.Repeat("r", 1025)
	must(t, "too long, and full", l.Add([]string{wrong}), api.ErrArg)
	must(t, "empty, behind what is full", l.Add([]string{long, ""}), api.ErrArg)
	must(t, "full", l.Add([]string{long}), api.ErrFull)
	must(t, "Fuse(0)", d.Fuse(0), api.OK)
	must(t, "empty, at a fuse of 0", l.Add([]string{"a", ""}), api.ErrArg)
	must(t, "full, at a fuse of 0", l.Add([]string{long}), api.ErrFull)
	if d.Off() {
		t.Error("what is refused put the power off")
	}
	putOff(t, d)
	must(t, "too long, without power", l.Add([]string{"a", wrong}), api.ErrArg)
	must(t, "empty, without power", l.Add([]string{"a", ""}), api.ErrArg)
	must(t, "too long, full, without power", l.Add([]string{long, wrong}), api.ErrArg)
	must(t, "full, without power", l.Add([]string{long}), api.ErrFull)
	must(t, "without power", l.Add([]string{"a"}), api.ErrOff)
}

// TestWl3Off: without power nothing is added, nor made sure, and what is asked is told.
func TestWl3Off(t *testing.T) {
	d := newDisk(t, 4)
	l := opened(t, d, 1, 4, 1)
	adds(t, l, "one")
	putOff(t, d)
	for range 2 {
		must(t, "Add", l.Add([]string{"two"}), api.ErrOff)
		must(t, "Add of what ends with a sector", l.Add([]string{strings.Repeat("r", 9)}), api.ErrOff)
		must(t, "Add of nothing", l.Add(nil), api.ErrOff)
		must(t, "Sync", l.Sync(), api.ErrOff)
		has(t, l, "one")
		waits(t, d, 1)
	}
	crash(t, d, 32)
	has(t, opened(t, d, 1, 4, 1), "one")
}

// TestWl3Sync: it is a flush, also where nothing waits, and costs one of a fuse.
func TestWl3Sync(t *testing.T) {
	d := newDisk(t, 4)
	l := opened(t, d, 0, 2, 1)
	must(t, "Write", d.Write(3, strings.Repeat("w", 32)), api.OK)
	adds(t, l, "one")
	waits(t, d, 2)
	must(t, "Fuse(2)", d.Fuse(2), api.OK)
	syncs(t, l)
	waits(t, d, 0)
	syncs(t, l)
	must(t, "the third", l.Sync(), api.ErrOff)
	if !d.Off() {
		t.Error("the power is on, behind the fuse")
	}
	crash(t, d)
	has(t, opened(t, d, 0, 2, 1), "one")
	if s, _ := d.Read(3); s != strings.Repeat("w", 32) {
		t.Errorf("what another one wrote is not sure: %q", s)
	}
}

// TestWl3Fuse: a fuse that goes off at each sector of a group: those ahead of it are written, and no other one.
func TestWl3Fuse(t *testing.T) {
	group := []string{strings.Repeat("g", 40), strings.Repeat("h", 40), "i"}
	for left := range 6 {
		d := newDisk(t, 6)
		l := opened(t, d, 1, 6, 1)
		adds(t, l, "ahead")
		syncs(t, l)
		was := bytesOf(t, d)
		must(t, "Fuse", d.Fuse(left), api.OK)
		want := api.ErrOff
		if left >= 4 {
			want = api.OK
		}
		must(t, fmt.Sprintf("Add at a fuse of %d", left), l.Add(group), want)
		if d.Off() != (left < 4) {
			t.Errorf("at a fuse of %d: Off %t", left, d.Off())
		}
		waits(t, d, min(left, 4))
		if left < 4 {
			has(t, l, "ahead")
			must(t, "Sync", l.Sync(), api.ErrOff)
			must(t, "Add", l.Add([]string{"x"}), api.ErrOff)
		}
		crash(t, d, 32, 32, 32, 32)
		now := bytesOf(t, d)
		end := 32 + 32*min(left, 4)
		whole := upon(was, 32+15, rawAll(1, group...))
		if now != whole[:end]+was[end:] {
			t.Errorf("at a fuse of %d: %q, want %q", left, now, whole[:end]+was[end:])
		}
		kept := []int{0, 0, 0, 1, 3, 3}[left]
		has(t, opened(t, d, 1, 6, 1), append([]string{"ahead"}, group[:kept]...)...)
	}
}

// TestWl3NotByOpen: logs that Open did not give.
func TestWl3NotByOpen(t *testing.T) {
	for _, l := range []*wal.Log{nil, {}, new(wal.Log)} {
		for range 2 {
			if r := l.Records(); len(r) != 0 {
				t.Errorf("Records: %q", r)
			}
			if n := l.Used(); n != 0 {
				t.Errorf("Used: %d", n)
			}
			for _, group := range [][]string{nil, {}, {"a"}, {""}, {"a", "b"}, {strings.Repeat("r", 1025)}} {
				must(t, "Add", l.Add(group), api.ErrArg)
			}
			must(t, "Sync", l.Sync(), api.ErrArg)
		}
	}
}
