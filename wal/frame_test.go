package wal_test

import (
	"slices"
	"strings"
	"testing"

	"quayside/api"
	"quayside/wal"
)

// TestExample is that of the chapter.
func TestExample(t *testing.T) {
	s, e := wal.Frame(1, "a")
	if e != api.OK || len(s) != 11 || s[:6] != "\x01\x00\x00\x00\x01\x00" || s[10:] != "a" {
		t.Errorf("%q, error %d", s, e)
	}
	if s != rawBytes(1, "a") {
		t.Errorf("%q, want %q", s, rawBytes(1, "a"))
	}
}

// records are ones that may be, at their edges, with bytes of every kind.
func records() []string {
	every := ""
	for b := range 256 {
		every += string([]byte{byte(b)})
	}
	return []string{"a", "\x00", "\xff", "ab", "\u00e4\u20ac", every[:255], every, every + "\x00", strings.Repeat("r", 1023), strings.Repeat(every, 4)}
}

func TestWl1Frame(t *testing.T) {
	for _, turn := range []int{1, 2, 255, 256, 65535, 65536, 0x01020304, 1 << 30, lastTurn - 1, lastTurn} {
		for _, r := range records() {
			if s, e := wal.Frame(turn, r); s != rawBytes(uint32(turn), r) || e != api.OK {
				t.Errorf("Frame(%d, %.20q): %.60q, error %d, want %.60q", turn, r, s, e, rawBytes(uint32(turn), r))
			}
		}
	}
}

func TestWl1FrameRefused(t *testing.T) {
	refused := func(turn int, s string) {
		t.Helper()
		if got, e := wal.Frame(turn, s); got != "" || e != api.ErrArg {
			t.Errorf("Frame(%d, a record of %d bytes): %.40q, error %d", turn, len(s), got, e)
		}
	}
	for _, turn := range noTurns {
		for _, n := range []int{0, 1, 2, 1024, 1025} {
			refused(turn, strings.Repeat("r", n))
		}
	}
	for _, turn := range []int{1, lastTurn} {
		for _, n := range []int{0, 1025, 1026, 1 << 16, 1<<16 + 1, 1 << 20} {
			refused(turn, strings.Repeat("r", n))
		}
		refused(turn, strings.Repeat("\u00e4", 513))
	}
}

// noTurns may not be; of some the lowest 32 bits are a turn that may.
var noTurns = []int{api.MinInt, -1 << 32, 1 - 1<<32, -lastTurn, -2, -1, 0, 1 << 31, 1<<31 + 1, 1<<32 - 1, 1 << 32, 1<<32 + 1, api.MaxInt}

func TestWl1ScanWhole(t *testing.T) {
	scans(t, 1, "", 0)
	all, used := "", 0
	var added []string
	for _, r := range records() {
		scans(t, 7, rawBytes(7, r), 10+len(r), r)
		all, used, added = all+rawBytes(7, r), used+10+len(r), append(added, r)
		scans(t, 7, all, used, added...)
	}
	for _, turn := range []int{1, 2, 255, 256, lastTurn - 1, lastTurn} {
		scans(t, turn, rawAll(uint32(turn), "a", "bc", "a"), 34, "a", "bc", "a")
	}
}

// TestWl1ScanBehind: what is no record behind the others is not there, and takes nothing from them.
func TestWl1ScanBehind(t *testing.T) {
	for _, behind := range []string{
		"\x00", "\xff", strings.Repeat("\x00", 9), strings.Repeat("\x00", 10), strings.Repeat("\x00", 4096), strings.Repeat("\xff", 4096), "a record", "\x01\x00\x00\x00\x01\x00", "\x01\x00\x00\x00\xff\xff",
	} {
		scans(t, 1, behind, 0)
		scans(t, 1, rawAll(1, "a")+behind, 11, "a")
		scans(t, 1, rawAll(1, "a", "second")+behind, 27, "a", "second")
		scans(t, 1, rawAll(1, "a")+behind+rawAll(1, "second"), 11, "a")
	}
}

// TestWl1ScanCut: of a record that is cut off nothing is there.
func TestWl1ScanCut(t *testing.T) {
	for _, r := range []string{"a", "record", strings.Repeat("r", 300)} {
		for cut := range 10 + len(r) {
			scans(t, 3, rawBytes(3, r)[:cut], 0)
			scans(t, 3, rawBytes(3, "ahead")+rawBytes(3, r)[:cut], 15, "ahead")
		}
	}
	for cut := range 1034 {
		scans(t, 3, rawBytes(3, strings.Repeat("r", 1024))[:cut], 0)
	}
}

// TestWl1ScanTurned: a record of which one byte is another one is not there, nor is any behind it.
func TestWl1ScanTurned(t *testing.T) {
	ahead, r, behind := rawBytes(9, "ahead"), rawBytes(9, "record"), rawBytes(9, "behind")
	for at := range r {
		for by := 1; by < 256; by++ {
			turned := r[:at] + string([]byte{r[at] ^ byte(by)}) + r[at+1:]
			scans(t, 9, turned+behind, 0)
			scans(t, 9, ahead+turned+behind, 15, "ahead")
		}
	}
}

// TestWl1ScanOtherTurn: records of other turns are no records.
func TestWl1ScanOtherTurn(t *testing.T) {
	for _, other := range []uint32{1, 2, 4, 259, 3 << 8, 1<<24 + 3, lastTurn, 1<<31 + 3} {
		scans(t, 3, rawAll(other, "a", "b"), 0)
		scans(t, 3, rawAll(3, "a")+rawAll(other, "b")+rawAll(3, "c"), 11, "a")
		scans(t, 3, rawAll(3, "a", "b")+rawAll(other, "c"), 22, "a", "b")
	}
}

// TestWl1ScanNoTurn: of a turn that may not be there are none, though bytes and sums are as they would be.
func TestWl1ScanNoTurn(t *testing.T) {
	for _, turn := range noTurns {
		scans(t, turn, rawAll(uint32(turn), "a", "b"), 0)
		scans(t, turn, rawAll(1, "a", "b"), 0)
		scans(t, turn, "", 0)
	}
}

// TestWl1ScanNoRecord: bytes of which the sum fits, of a record that Frame refuses.
func TestWl1ScanNoRecord(t *testing.T) {
	for _, n := range []int{0, 1025, 1026, 2048, 65535} {
		r := rawBytes(5, strings.Repeat("r", n))
		scans(t, 5, r, 0)
		scans(t, 5, rawBytes(5, "a")+r+rawBytes(5, "b"), 11, "a")
	}
}

// TestWl1ScanFrame holds Scan against what it says: the most records whose bytes a text begins with.
func TestWl1ScanFrame(t *testing.T) {
	x := dice(193939)
	for run := range 400 {
		turn := 1 + x.below(3)
		s, want, used, broken := "", []string(nil), 0, false
		for range x.below(8) {
			r, of := x.text(1+x.below(20)), turn
			if x.below(6) == 0 {
				of = turn%3 + 1
			}
			f, e := wal.Frame(of, r)
			must(t, "Frame", e, api.OK)
			if x.below(8) == 0 {
				f = f[:1+x.below(len(f)-1)]
			}
			broken = broken || of != turn || len(f) < 10+len(r)
			if !broken {
				want, used = append(want, r), used+len(f)
			}
			s += f
		}
		if got, n := wal.Scan(turn, s); !slices.Equal(got, want) || n != used {
			t.Fatalf("run %d: Scan(%d, %q): %q, %d, want %q, %d", run, turn, s, got, n, want, used)
		}
	}
}
