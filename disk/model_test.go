package disk_test

import (
	"fmt"
	"testing"

	"quayside/api"
	"quayside/disk"
)

// done is a write, or (at below 0) that all ahead of it are sure.
type done struct {
	at   int
	text string
	kept int
}

// model is a disk that works every sector out from all that was ever done.
type model struct {
	n    int
	all  []done
	fuse int
	off  bool
}

func (m *model) waits() int {
	n := 0
	for k := len(m.all) - 1; k >= 0 && m.all[k].at >= 0; k-- {
		n++
	}
	return n
}

func (m *model) sector(at int) string {
	s := noughts
	for _, x := range m.all {
		if x.at == at {
			s = x.text[:x.kept] + s[x.kept:]
		}
	}
	return s
}

func (m *model) powered() bool {
	if !m.off && m.fuse == 0 {
		m.off = true
	}
	m.fuse--
	return !m.off
}

func (m *model) write(at int, s string) api.Errno {
	if at < 0 || at >= m.n || len(s) != 32 {
		return api.ErrArg
	}
	if !m.powered() {
		return api.ErrOff
	}
	m.all = append(m.all, done{at, s, 32})
	return api.OK
}

func (m *model) flush() api.Errno {
	if !m.powered() {
		return api.ErrOff
	}
	m.all = append(m.all, done{at: -1})
	return api.OK
}

func (m *model) crash(keep []int) {
	first := len(m.all) - m.waits()
	for k := first; k < len(m.all); k++ {
		m.all[k].kept = 0
		if k-first < len(keep) {
			m.all[k].kept = min(max(keep[k-first], 0), 32)
		}
	}
	m.all = append(m.all, done{at: -1})
	m.off, m.fuse = false, -1
}

// dice are numbers that look like any, the same ones each time.
type dice uint64

func (x *dice) below(n int) int {
	*x ^= *x << 13
	*x ^= *x >> 7
	*x ^= *x << 17
	return int(uint64(*x) >> 20 % uint64(n))
}

func (x *dice) text() string {
	n := 32
	if x.below(12) == 0 {
		n = 31 + x.below(3)
	}
	s := ""
	for range n {
		s += string([]byte{byte(x.below(256))})
	}
	return s
}

func (x *dice) keep(waits int) []int {
	var keep []int
	for range x.below(waits + 3) {
		keep = append(keep, x.below(40)-4)
	}
	return keep
}

// step does one thing to both and tells what it was, and whether both answer the same.
func step(x *dice, d *disk.Disk, m *model) (string, bool) {
	switch kind := x.below(20); {
	case kind < 12:
		at, s := x.below(m.n+2)-1, x.text()
		return fmt.Sprintf("Write(%d, %q)", at, s), d.Write(at, s) == m.write(at, s)
	case kind < 15:
		return "Flush", d.Flush() == m.flush()
	case kind < 17:
		m.fuse = x.below(12) - 3
		return fmt.Sprintf("Fuse(%d)", m.fuse), d.Fuse(m.fuse) == api.OK
	default:
		if !m.off && kind < 19 {
			return "nothing", true
		}
		keep := x.keep(m.waits())
		m.crash(keep)
		return fmt.Sprintf("Crash(%d)", keep), d.Crash(keep) == api.OK
	}
}

// agree tells whether a disk answers everywhere what its model does.
func agree(d *disk.Disk, m *model) bool {
	if d.Size() != m.n || d.Waits() != m.waits() || d.Off() != m.off {
		return false
	}
	for at := -1; at <= m.n; at++ {
		want, wantErr := "", api.ErrArg
		if at >= 0 && at < m.n {
			want, wantErr = m.sector(at), api.OK
			if m.off {
				want, wantErr = "", api.ErrOff
			}
		}
		if s, e := d.Read(at); s != want || e != wantErr {
			return false
		}
	}
	return true
}

// TestDk1Dk2Model holds disks against models, step by step, over long runs.
func TestDk1Dk2Model(t *testing.T) {
	for n := 1; n <= 5; n++ {
		for seed := range 40 {
			x := dice(88172645463325252 + 7919*seed + n)
			d, m := newDisk(t, n), &model{n: n, fuse: -1}
			for k := range 120 {
				what, same := step(&x, d, m)
				if !same || !agree(d, m) {
					t.Fatalf("%d sectors, run %d: step %d, %s: the disk is not as its model", n, seed, k, what)
				}
			}
		}
	}
}
