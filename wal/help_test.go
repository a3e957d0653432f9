package wal_test

import (
	"encoding/binary"
	"fmt"
	"hash/crc32"
	"slices"
	"strings"
	"testing"

	"quayside/api"
	"quayside/disk"
	"quayside/wal"
)

const lastTurn = 1<<31 - 1

// rawBytes are a record's bytes by the library's means, of turns and records too that may not be.
func rawBytes(turn uint32, s string) string {
	head := binary.LittleEndian.AppendUint32(nil, turn)
	head = binary.LittleEndian.AppendUint16(head, uint16(len(s)))
	sum := crc32.ChecksumIEEE([]byte(string(head) + s))
	return string(binary.LittleEndian.AppendUint32(head, sum)) + s
}

// rawAll are the bytes of some records, one behind the other.
func rawAll(turn uint32, group ...string) string {
	s := ""
	for _, r := range group {
		s += rawBytes(turn, r)
	}
	return s
}

func must(t *testing.T, what string, got, want api.Errno) {
	t.Helper()
	if got != want {
		t.Errorf("%s: error %d, want %d", what, got, want)
	}
}

func newDisk(t *testing.T, n int) *disk.Disk {
	t.Helper()
	d, e := disk.New(n)
	if e != api.OK {
		t.Fatalf("New(%d): error %d", n, e)
	}
	return d
}

// fill writes a text from a sector on, upon a disk that holds signs elsewhere, and lets it be sure.
func fill(t *testing.T, n, from int, s string) *disk.Disk {
	t.Helper()
	d := newDisk(t, n)
	all := []byte(strings.Repeat("0123456789abcdefghijklmnopqrstuv", n))
	copy(all[from*32:], s)
	for at := range n {
		must(t, fmt.Sprintf("Write(%d)", at), d.Write(at, string(all[at*32:at*32+32])), api.OK)
	}
	must(t, "Flush", d.Flush(), api.OK)
	return d
}

// bytesOf is a whole disk.
func bytesOf(t *testing.T, d *disk.Disk) string {
	t.Helper()
	s := ""
	for at := range d.Size() {
		sector, e := d.Read(at)
		if e != api.OK {
			t.Fatalf("Read(%d): error %d", at, e)
		}
		s += sector
	}
	return s
}

// upon is a text with another one laid upon it, from a byte on.
func upon(under string, at int, s string) string { return under[:at] + s + under[at+len(s):] }

func opened(t *testing.T, d *disk.Disk, from, to, turn int) *wal.Log {
	t.Helper()
	l, e := wal.Open(d, from, to, turn)
	if l == nil || e != api.OK {
		t.Fatalf("Open(%d, %d, %d): %v, error %d", from, to, turn, l, e)
	}
	return l
}

func adds(t *testing.T, l *wal.Log, group ...string) {
	t.Helper()
	must(t, fmt.Sprintf("Add(%.40q)", group), l.Add(group), api.OK)
}

func syncs(t *testing.T, l *wal.Log) {
	t.Helper()
	must(t, "Sync", l.Sync(), api.OK)
}

func crash(t *testing.T, d *disk.Disk, keep ...int) {
	t.Helper()
	must(t, "Crash", d.Crash(keep), api.OK)
}

func waits(t *testing.T, d *disk.Disk, want int) {
	t.Helper()
	if got := d.Waits(); got != want {
		t.Errorf("Waits: %d, want %d", got, want)
	}
}

// putOff lets the power of a disk go off, and writes nothing.
func putOff(t *testing.T, d *disk.Disk) {
	t.Helper()
	must(t, "Fuse(0)", d.Fuse(0), api.OK)
	must(t, "Flush", d.Flush(), api.ErrOff)
}

// has tells a log's records, and that they have as many bytes as it says.
func has(t *testing.T, l *wal.Log, want ...string) {
	t.Helper()
	if got := l.Records(); !slices.Equal(got, want) {
		t.Errorf("Records: %.40q, want %.40q", got, want)
	}
	used := 0
	for _, s := range want {
		used += 10 + len(s)
	}
	if got := l.Used(); got != used {
		t.Errorf("Used: %d, want %d", got, used)
	}
}

func scans(t *testing.T, turn int, s string, used int, want ...string) {
	t.Helper()
	if got, n := wal.Scan(turn, s); !slices.Equal(got, want) || n != used {
		t.Errorf("Scan(%d, %.60q): %.40q, %d, want %.40q, %d", turn, s, got, n, want, used)
	}
}

// dice are numbers that look like any, the same ones each time.
type dice uint64

func (x *dice) below(n int) int {
	*x ^= *x << 13
	*x ^= *x >> 7
	*x ^= *x << 17
	return int(uint64(*x) >> 20 % uint64(n))
}

func (x *dice) text(n int) string {
	s := make([]byte, n)
	for k := range s {
		s[k] = byte(x.below(256))
	}
	return string(s)
}

// group is some records, short ones and ones that lie in several sectors.
func (x *dice) group() []string {
	var group []string
	for range x.below(4) {
		n := 1 + x.below(30)
		if x.below(4) == 0 {
			n = 1 + x.below(120)
		}
		group = append(group, x.text(n))
	}
	return group
}
