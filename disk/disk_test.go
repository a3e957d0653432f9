package disk_test

import (
	"fmt"
	"slices"
	"strings"
	"testing"

	"quayside/api"
	"quayside/disk"
)

const noughts = "\x00\x00\x00\x00\x00\x00\x00\x00\x00\x00\x00\x00\x00\x00\x00\x00\x00\x00\x00\x00\x00\x00\x00\x00\x00\x00\x00\x00\x00\x00\x00\x00"

// full is a sector of one letter.
func full(letter string) string { return strings.Repeat(letter, 32) }

// part is a sector that begins with so many bytes of a letter, upon others.
func part(letter string, n int, under string) string {
	return strings.Repeat(letter, n) + under[n:]
}

func must(t *testing.T, what string, got, want api.Errno) {
	t.Helper()
	if got != want {
		t.Errorf("%s: error %d, want %d", what, got, want)
	}
}

func newDisk(t *testing.T, n int) *disk.Disk {
	t.Helper()
	d, e := disk.New(n)
	if e != api.OK || d == nil {
		t.Fatalf("New(%d): %v, error %d", n, d, e)
	}
	return d
}

func write(t *testing.T, d *disk.Disk, at int, s string) {
	t.Helper()
	must(t, fmt.Sprintf("Write(%d, %q)", at, s), d.Write(at, s), api.OK)
}

func flush(t *testing.T, d *disk.Disk) {
	t.Helper()
	must(t, "Flush", d.Flush(), api.OK)
}

func crash(t *testing.T, d *disk.Disk, keep ...int) {
	t.Helper()
	must(t, fmt.Sprintf("Crash(%d)", keep), d.Crash(keep), api.OK)
}

func fuse(t *testing.T, d *disk.Disk, n int) {
	t.Helper()
	must(t, fmt.Sprintf("Fuse(%d)", n), d.Fuse(n), api.OK)
}

func reads(t *testing.T, d *disk.Disk, at int, want string) {
	t.Helper()
	if s, e := d.Read(at); s != want || e != api.OK {
		t.Errorf("Read(%d): %q, error %d, want %q", at, s, e, want)
	}
}

// refusesRead: beside an error there is no text.
func refusesRead(t *testing.T, d *disk.Disk, at int, want api.Errno) {
	t.Helper()
	if s, e := d.Read(at); s != "" || e != want {
		t.Errorf("Read(%d): %q, error %d, want none, error %d", at, s, e, want)
	}
}

func waits(t *testing.T, d *disk.Disk, want int) {
	t.Helper()
	if got := d.Waits(); got != want {
		t.Errorf("Waits: %d, want %d", got, want)
	}
}

func power(t *testing.T, d *disk.Disk, off bool) {
	t.Helper()
	if got := d.Off(); got != off {
		t.Errorf("Off: %t, want %t", got, off)
	}
}

// TestExample is that of the chapter.
func TestExample(t *testing.T) {
	d := newDisk(t, 1)
	write(t, d, 0, full("a"))
	flush(t, d)
	write(t, d, 0, full("b"))
	crash(t, d)
	reads(t, d, 0, full("a"))
}

func TestDk1New(t *testing.T) {
	for _, n := range []int{api.MinInt, -4096, -1, 0, 4097, 4098, 1 << 32, api.MaxInt} {
		if d, e := disk.New(n); d != nil || e != api.ErrArg {
			t.Errorf("New(%d): %v, error %d", n, d, e)
		}
	}
	for _, n := range []int{1, 2, 31, 32, 33, 4095, 4096} {
		d := newDisk(t, n)
		if d.Size() != n {
			t.Errorf("New(%d): Size %d", n, d.Size())
		}
		power(t, d, false)
		waits(t, d, 0)
		for at := range n {
			reads(t, d, at, noughts)
		}
		refusesRead(t, d, n, api.ErrArg)
	}
}

// TestDk1NewNoFuse: as many writes and flushes as one likes.
func TestDk1NewNoFuse(t *testing.T) {
	d := newDisk(t, 2)
	for k := range 5000 {
		write(t, d, k%2, full("w"))
		if k%100 == 0 {
			flush(t, d)
		}
	}
	power(t, d, false)
}

func TestDk1WriteAndRead(t *testing.T) {
	for _, n := range []int{1, 2, 3, 4096} {
		d := newDisk(t, n)
		for _, at := range []int{api.MinInt, -4096, -2, -1, n, n + 1, n + 4096, api.MaxInt} {
			must(t, fmt.Sprintf("Write(%d) of %d", at, n), d.Write(at, full("x")), api.ErrArg)
			refusesRead(t, d, at, api.ErrArg)
		}
		waits(t, d, 0)
		write(t, d, 0, full("f"))
		write(t, d, n-1, full("l"))
		waits(t, d, 2)
		reads(t, d, n-1, full("l"))
		for at := 1; at < n-1; at++ {
			reads(t, d, at, noughts)
		}
		if n > 1 {
			reads(t, d, 0, full("f"))
		}
		flush(t, d)
		waits(t, d, 0)
		reads(t, d, n-1, full("l"))
	}
}

// TestDk1Lengths: a sector is written by 32 bytes, of whatever kind, and by no other number of them.
func TestDk1Lengths(t *testing.T) {
	d := newDisk(t, 1)
	for n := range 100 {
		want := api.ErrArg
		if n == 32 {
			want = api.OK
		}
		must(t, fmt.Sprintf("Write of %d bytes", n), d.Write(0, strings.Repeat("n", n)), want)
	}
	waits(t, d, 1)
	must(t, "Write of 32 runes, of 64 bytes", d.Write(0, full("\u00e4")), api.ErrArg)
	must(t, "Write of a long text", d.Write(0, strings.Repeat("n", 32<<10)), api.ErrArg)
	waits(t, d, 1)
	for from := 0; from < 256; from += 32 {
		var s []byte
		for k := range 32 {
			s = append(s, byte(from+k))
		}
		write(t, d, 0, string(s))
		reads(t, d, 0, string(s))
	}
	write(t, d, 0, noughts)
	reads(t, d, 0, noughts)
}

// TestDk1WrittenLast: what is read is the last write, ahead of a flush and behind it; each write waits, the same sector's and the same text's too.
func TestDk1WrittenLast(t *testing.T) {
	d := newDisk(t, 3)
	for k, letter := range []string{"a", "b", "b", "a"} {
		write(t, d, 1, full(letter))
		reads(t, d, 1, full(letter))
		waits(t, d, k+1)
	}
	flush(t, d)
	waits(t, d, 0)
	reads(t, d, 1, full("a"))
	reads(t, d, 0, noughts)
	reads(t, d, 2, noughts)
	flush(t, d)
	waits(t, d, 0)
	write(t, d, 1, full("c"))
	waits(t, d, 1)
	reads(t, d, 1, full("c"))
}

// TestDk1ErrorsOrder: an argument that may not be is told ahead of a power that is off, or that is to go off.
func TestDk1ErrorsOrder(t *testing.T) {
	d := newDisk(t, 2)
	fuse(t, d, 0)
	must(t, "Write(2) at a fuse of 0", d.Write(2, full("x")), api.ErrArg)
	must(t, "Write(-1) at a fuse of 0", d.Write(-1, full("x")), api.ErrArg)
	must(t, "Write of 31 bytes at a fuse of 0", d.Write(0, full("x")[1:]), api.ErrArg)
	power(t, d, false)
	must(t, "Write at a fuse of 0", d.Write(0, full("x")), api.ErrOff)
	power(t, d, true)
	must(t, "Write(2) without power", d.Write(2, full("x")), api.ErrArg)
	must(t, "Write(-1) without power", d.Write(-1, full("x")), api.ErrArg)
	must(t, "Write of 33 bytes without power", d.Write(0, full("x")+"x"), api.ErrArg)
	refusesRead(t, d, 2, api.ErrArg)
	refusesRead(t, d, -1, api.ErrArg)
	refusesRead(t, d, 1, api.ErrOff)
}

// TestDk1Fuse: so many writes and flushes are done as the fuse says, and the next one is met by it, whichever of both it is.
func TestDk1Fuse(t *testing.T) {
	for k := range 6 {
		for last := range 2 {
			for kinds := range 1 << k {
				d := newDisk(t, 1)
				fuse(t, d, k)
				waiting, now := 0, noughts
				for step := range k {
					if kinds>>step&1 == 1 {
						flush(t, d)
						waiting = 0
					} else {
						now = full(string(rune('a' + step)))
						write(t, d, 0, now)
						waiting++
					}
					power(t, d, false)
					reads(t, d, 0, now)
				}
				if last == 0 {
					must(t, "Write that the fuse meets", d.Write(0, full("x")), api.ErrOff)
				} else {
					must(t, "Flush that the fuse meets", d.Flush(), api.ErrOff)
				}
				power(t, d, true)
				waits(t, d, waiting)
			}
		}
	}
}

// TestDk1FuseIsOfWritesAndFlushes: what is read, asked or refused costs nothing of it.
func TestDk1FuseIsOfWritesAndFlushes(t *testing.T) {
	d := newDisk(t, 2)
	fuse(t, d, 2)
	ask := func() {
		for range 5 {
			d.Size()
			d.Waits()
			d.Off()
			d.Read(0)
			d.Read(7)
			d.Write(7, full("x"))
			d.Write(0, "x")
		}
	}
	ask()
	write(t, d, 0, full("a"))
	ask()
	flush(t, d)
	ask()
	power(t, d, false)
	reads(t, d, 0, full("a"))
	must(t, "the third", d.Flush(), api.ErrOff)
}

// TestDk1FuseIsSet: a fuse that is set anew is the new one, and one below 0 is none.
func TestDk1FuseIsSet(t *testing.T) {
	d := newDisk(t, 1)
	fuse(t, d, 5)
	fuse(t, d, 1)
	write(t, d, 0, full("a"))
	fuse(t, d, 2)
	write(t, d, 0, full("b"))
	flush(t, d)
	for _, none := range []int{-1, -2, -4096, api.MinInt} {
		fuse(t, d, 0)
		fuse(t, d, none)
		for range 50 {
			write(t, d, 0, full("c"))
			flush(t, d)
		}
		power(t, d, false)
	}
	fuse(t, d, api.MaxInt)
	for range 50 {
		write(t, d, 0, full("d"))
		flush(t, d)
	}
	fuse(t, d, 0)
	must(t, "Flush", d.Flush(), api.ErrOff)
}

// TestDk1FuseIsGone: once it has put the power off there is none, so that behind a crash the power stays.
func TestDk1FuseIsGone(t *testing.T) {
	for _, k := range []int{0, 1, 2} {
		d := newDisk(t, 1)
		fuse(t, d, k)
		for range k {
			write(t, d, 0, full("a"))
		}
		must(t, "Write that the fuse meets", d.Write(0, full("a")), api.ErrOff)
		waits(t, d, k)
		crash(t, d)
		power(t, d, false)
		for range 10 {
			write(t, d, 0, full("b"))
			flush(t, d)
		}
		power(t, d, false)
	}
}

// TestDk1Off: without power nothing is written, read or flushed, but what there is is told.
func TestDk1Off(t *testing.T) {
	d := newDisk(t, 3)
	write(t, d, 0, full("a"))
	flush(t, d)
	write(t, d, 0, full("b"))
	write(t, d, 1, full("c"))
	fuse(t, d, 0)
	must(t, "Write", d.Write(2, full("d")), api.ErrOff)
	for _, k := range []int{-1, 0, 1, 9} {
		fuse(t, d, k)
		for range 3 {
			power(t, d, true)
			waits(t, d, 2)
			if d.Size() != 3 {
				t.Errorf("Size: %d", d.Size())
			}
			for at := range 3 {
				refusesRead(t, d, at, api.ErrOff)
				must(t, "Write", d.Write(at, full("x")), api.ErrOff)
			}
			must(t, "Flush", d.Flush(), api.ErrOff)
		}
	}
	crash(t, d, 8, 32)
	power(t, d, false)
	waits(t, d, 0)
	reads(t, d, 0, part("b", 8, full("a")))
	reads(t, d, 1, full("c"))
	reads(t, d, 2, noughts)
}

// TestDk1FlushThatIsRefused leaves writes that are not sure.
func TestDk1FlushThatIsRefused(t *testing.T) {
	d := newDisk(t, 2)
	fuse(t, d, 1)
	write(t, d, 0, full("a"))
	must(t, "Flush", d.Flush(), api.ErrOff)
	waits(t, d, 1)
	crash(t, d)
	reads(t, d, 0, noughts)
}

// TestDk2Keep: how much survives of one write, upon what was sure.
func TestDk2Keep(t *testing.T) {
	for _, x := range []struct{ keep, bytes int }{
		{api.MinInt, 0}, {-32, 0}, {-1, 0}, {0, 0}, {1, 1}, {2, 2}, {16, 16}, {31, 31}, {32, 32}, {33, 32}, {64, 32}, {1 << 32, 32}, {1<<32 + 3, 32}, {api.MaxInt, 32},
	} {
		for _, under := range []string{noughts, full("u")} {
			d := newDisk(t, 2)
			write(t, d, 1, under)
			flush(t, d)
			write(t, d, 1, full("w"))
			crash(t, d, x.keep)
			reads(t, d, 1, part("w", x.bytes, under))
			reads(t, d, 0, noughts)
			waits(t, d, 0)
		}
	}
}

// TestDk2KeepOfEach: the numbers are of the writes as these came; where there is none the write is lost, and numbers beyond the writes count for nothing.
func TestDk2KeepOfEach(t *testing.T) {
	for given := range 7 {
		d := newDisk(t, 4)
		for _, at := range []int{2, 0, 3, 1} {
			write(t, d, at, full("w"))
		}
		crash(t, d, []int{5, 32, -1, 31, 32, 7}[:given]...)
		bytes := []int{5, 32, 0, 31}
		for k := given; k < 4; k++ {
			bytes[k] = 0
		}
		for k, at := range []int{2, 0, 3, 1} {
			reads(t, d, at, part("w", bytes[k], noughts))
		}
	}
}

// TestDk2OneUponTheOther: several writes of a sector that survive in part.
func TestDk2OneUponTheOther(t *testing.T) {
	for _, x := range []struct {
		keep []int
		want string
	}{
		{nil, full("s")},
		{[]int{}, full("s")},
		{[]int{0, 0, 0}, full("s")},
		{[]int{10}, part("a", 10, full("s"))},
		{[]int{10, 4}, part("b", 4, part("a", 10, full("s")))},
		{[]int{4, 10}, part("b", 10, full("s"))},
		{[]int{20, 10, 5}, part("c", 5, part("b", 10, part("a", 20, full("s"))))},
		{[]int{5, 20, 10}, part("c", 10, part("b", 20, full("s")))},
		{[]int{20, 0, 5}, part("c", 5, part("a", 20, full("s")))},
		{[]int{32, -7, 0}, full("a")},
		{[]int{0, 0, 31}, part("c", 31, full("s"))},
		{[]int{32, 31, 1}, part("c", 1, part("b", 31, full("a")))},
		{[]int{1, 2, 32, 32}, full("c")},
		{[]int{0, 99}, full("b")},
	} {
		d := newDisk(t, 2)
		write(t, d, 0, full("s"))
		flush(t, d)
		for _, letter := range []string{"a", "b", "c"} {
			write(t, d, 0, full(letter))
		}
		crash(t, d, x.keep...)
		if s, e := d.Read(0); s != x.want || e != api.OK {
			t.Errorf("kept %d: %q, error %d, want %q", x.keep, s, e, x.want)
		}
		waits(t, d, 0)
	}
}

// TestDk2BehindACrash: none is left that is not sure, the power is on, and there is no fuse.
func TestDk2BehindACrash(t *testing.T) {
	for _, off := range []bool{false, true} {
		d := newDisk(t, 2)
		write(t, d, 0, full("a"))
		write(t, d, 1, full("b"))
		if off {
			fuse(t, d, 0)
			must(t, "Flush", d.Flush(), api.ErrOff)
		}
		fuse(t, d, 3)
		power(t, d, off)
		crash(t, d, 32, 7)
		power(t, d, false)
		waits(t, d, 0)
		crash(t, d, 32, 32, 32)
		reads(t, d, 0, full("a"))
		reads(t, d, 1, part("b", 7, noughts))
		for range 10 {
			write(t, d, 0, full("c"))
			flush(t, d)
		}
		power(t, d, false)
		reads(t, d, 0, full("c"))
	}
}

// TestDk2Torn: what survived is sure, and is what a later write stands upon.
func TestDk2Torn(t *testing.T) {
	d := newDisk(t, 1)
	write(t, d, 0, full("a"))
	crash(t, d, 20)
	write(t, d, 0, full("b"))
	crash(t, d, 10)
	want := part("b", 10, part("a", 20, noughts))
	reads(t, d, 0, want)
	write(t, d, 0, full("c"))
	reads(t, d, 0, full("c"))
	crash(t, d)
	reads(t, d, 0, want)
	flush(t, d)
	crash(t, d)
	reads(t, d, 0, want)
}

// TestDk2NotByNew: disks that New did not give.
func TestDk2NotByNew(t *testing.T) {
	for _, d := range []*disk.Disk{nil, {}, new(disk.Disk)} {
		for range 2 {
			if d.Size() != 0 {
				t.Errorf("Size: %d", d.Size())
			}
			waits(t, d, 0)
			power(t, d, false)
			for _, at := range []int{-1, 0, 1, api.MaxInt, api.MinInt} {
				must(t, "Write", d.Write(at, full("x")), api.ErrArg)
				must(t, "Write of nothing", d.Write(at, ""), api.ErrArg)
				refusesRead(t, d, at, api.ErrArg)
				must(t, "Fuse", d.Fuse(at), api.ErrArg)
			}
			must(t, "Flush", d.Flush(), api.ErrArg)
			must(t, "Crash()", d.Crash(nil), api.ErrArg)
			must(t, "Crash(1)", d.Crash([]int{1}), api.ErrArg)
		}
	}
}

// TestDk3Flushed: behind a flush, whatever is kept, sectors that were not written since are as they were, and each other one begins with what survived of it, upon what was sure.
func TestDk3Flushed(t *testing.T) {
	for kept := -1; kept <= 33; kept++ {
		d := newDisk(t, 5)
		for at, letter := range []string{"a", "b", "c", "d"} {
			write(t, d, at, full(letter))
		}
		flush(t, d)
		write(t, d, 1, full("B"))
		write(t, d, 3, full("D"))
		crash(t, d, slices.Repeat([]int{kept}, 9)...)
		n := min(max(kept, 0), 32)
		for at, want := range []string{full("a"), part("B", n, full("b")), full("c"), part("D", n, full("d")), noughts} {
			reads(t, d, at, want)
		}
	}
}

// TestDk3NotWrittenBehind: a sector that is written behind a flush and flushed again is sure again.
func TestDk3NotWrittenBehind(t *testing.T) {
	d := newDisk(t, 2)
	write(t, d, 0, full("a"))
	flush(t, d)
	write(t, d, 0, full("b"))
	write(t, d, 1, full("c"))
	flush(t, d)
	crash(t, d, 1, 1, 1)
	reads(t, d, 0, full("b"))
	reads(t, d, 1, full("c"))
}
