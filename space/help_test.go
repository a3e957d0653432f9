package space_test

import (
	"fmt"
	"maps"
	"slices"
	"strings"
	"testing"

	"quayside/api"
	"quayside/disk"
	"quayside/space"
)

const lastTurn = 1<<20 - 1

var blank = strings.Repeat("\x00", 256)

// full are a page's bytes, of which no two sectors are the same, nor any two pages.
func full(n int) string {
	s := ""
	for k := range 8 {
		s += fmt.Sprintf("%-32s", fmt.Sprintf("page %d, its sector %d, and more", n, k))[:32]
	}
	return s
}

// plain is which pages are in use, with their bytes, and all names.
type plain struct {
	pages map[int]string
	names map[string]int
}

func (p plain) copied() plain { return plain{maps.Clone(p.pages), maps.Clone(p.names)} }

// model is a space without a disk.
type model struct {
	size, turn int
	last, now  plain
}

func newModel(size int) *model {
	none := func() plain { return plain{map[int]string{}, map[string]int{}} }
	return &model{size: size, last: none(), now: none()}
}

// rolledBack is it as it was committed last.
func (m *model) rolledBack() *model {
	return &model{m.size, m.turn, m.last.copied(), m.last.copied()}
}

// committed is it with all that was done.
func (m *model) committed() *model {
	return &model{m.size, m.turn + 1, m.now.copied(), m.now.copied()}
}

func (m *model) fresh(n int) bool {
	_, used := m.now.pages[n]
	_, was := m.last.pages[n]
	return used && !was
}

func (m *model) alloc() (int, api.Errno) {
	for n := 1; n <= m.size; n++ {
		_, used := m.now.pages[n]
		_, was := m.last.pages[n]
		if !used && !was {
			m.now.pages[n] = blank
			return n, api.OK
		}
	}
	return 0, api.ErrFull
}

func (m *model) release(n int) api.Errno {
	if _, used := m.now.pages[n]; !used {
		return api.ErrSpace
	}
	delete(m.now.pages, n)
	return api.OK
}

func (m *model) write(n int, b string) api.Errno {
	if len(b) != 256 {
		return api.ErrArg
	}
	if !m.fresh(n) {
		return api.ErrSpace
	}
	m.now.pages[n] = b
	return api.OK
}

func (m *model) name(name string, n int) api.Errno {
	if len(name) < 1 || len(name) > 8 {
		return api.ErrArg
	}
	if _, used := m.now.pages[n]; !used {
		return api.ErrSpace
	}
	others := maps.Clone(m.now.names)
	delete(others, name)
	if len(others) == 6 {
		return api.ErrFull
	}
	m.now.names[name] = n
	return api.OK
}

func (m *model) forget(name string) api.Errno {
	if _, has := m.now.names[name]; !has {
		return api.ErrNone
	}
	delete(m.now.names, name)
	return api.OK
}

func (m *model) commit() api.Errno {
	for _, n := range m.now.names {
		if _, used := m.now.pages[n]; !used {
			return api.ErrSpace
		}
	}
	if m.turn == lastTurn {
		return api.ErrFull
	}
	*m = *m.committed()
	return api.OK
}

// step is a call that may change something.
type step struct {
	kind string
	n    int
	text string
}

func (m *model) do(x step) (int, api.Errno) {
	switch x.kind {
	case "Alloc":
		return m.alloc()
	case "Release":
		return 0, m.release(x.n)
	case "Write":
		return 0, m.write(x.n, x.text)
	case "Name":
		return 0, m.name(x.text, x.n)
	case "Forget":
		return 0, m.forget(x.text)
	case "Commit":
		return 0, m.commit()
	}
	*m = *m.rolledBack()
	return 0, api.OK
}

func do(s *space.Space, x step) (int, api.Errno) {
	switch x.kind {
	case "Alloc":
		return s.Alloc()
	case "Release":
		return 0, s.Release(x.n)
	case "Write":
		return 0, s.Write(x.n, x.text)
	case "Name":
		return 0, s.Name(x.text, x.n)
	case "Forget":
		return 0, s.Forget(x.text)
	case "Commit":
		return 0, s.Commit()
	}
	return 0, s.Rollback()
}

// both does steps to a space and to its model, which answer the same.
func both(t *testing.T, s *space.Space, m *model, steps ...step) {
	t.Helper()
	for _, x := range steps {
		n, e := do(s, x)
		if want, wantErr := m.do(x); n != want || e != wantErr {
			t.Fatalf("%.60v: %d, error %d, want %d, error %d", x, n, e, want, wantErr)
		}
	}
}

// differs tells where a space is not as its model; nothing, if it is.
func differs(s *space.Space, m *model) string {
	if s.Pages() != m.size || s.Used() != len(m.now.pages) || s.Turn() != m.turn {
		return fmt.Sprintf("Pages %d, Used %d, Turn %d, want %d, %d, %d", s.Pages(), s.Used(), s.Turn(), m.size, len(m.now.pages), m.turn)
	}
	for n := -1; n <= m.size+2; n++ {
		want, used := m.now.pages[n]
		wantErr := api.OK
		if !used {
			wantErr = api.ErrSpace
		}
		if b, e := s.Read(n); b != want || e != wantErr {
			return fmt.Sprintf("Read(%d): %q, error %d, want %q, error %d", n, b, e, want, wantErr)
		}
		if s.Fresh(n) != m.fresh(n) {
			return fmt.Sprintf("Fresh(%d): %t", n, s.Fresh(n))
		}
	}
	names := slices.Sorted(maps.Keys(m.now.names))
	if !slices.Equal(s.Names(), names) {
		return fmt.Sprintf("Names: %q, want %q", s.Names(), names)
	}
	for _, name := range append(names, "", "none", "pages in use") {
		want, has := m.now.names[name]
		if n, ok := s.Named(name); n != want || ok != has {
			return fmt.Sprintf("Named(%q): %d, %t, want %d, %t", name, n, ok, want, has)
		}
	}
	return ""
}

func same(t *testing.T, what string, s *space.Space, m *model) {
	t.Helper()
	if x := differs(s, m); x != "" {
		t.Fatalf("%s: %s", what, x)
	}
}

func must(t *testing.T, what string, got, want api.Errno) {
	t.Helper()
	if got != want {
		t.Fatalf("%s: error %d, want %d", what, got, want)
	}
}

func newDisk(t *testing.T, n int) *disk.Disk {
	t.Helper()
	d, e := disk.New(n)
	must(t, fmt.Sprintf("New(%d)", n), e, api.OK)
	return d
}

// signs are bytes of n sectors that are neither noughts nor those of a space.
func signs(n int) string { return strings.Repeat("0123456789abcdefghijklmnopqrstuv", n) }

// diskOf is a disk of bytes, all of them sure.
func diskOf(t *testing.T, image string) *disk.Disk {
	t.Helper()
	d := newDisk(t, len(image)/32)
	for at := range d.Size() {
		must(t, "Write", d.Write(at, image[at*32:at*32+32]), api.OK)
	}
	must(t, "Flush", d.Flush(), api.OK)
	return d
}

// bytesOf are those of some sectors.
func bytesOf(t *testing.T, d *disk.Disk, from, to int) string {
	t.Helper()
	var s strings.Builder
	for at := from; at < to; at++ {
		sector, e := d.Read(at)
		must(t, fmt.Sprintf("Read(%d)", at), e, api.OK)
		s.WriteString(sector)
	}
	return s.String()
}

func opened(t *testing.T, d *disk.Disk, from, to int) *space.Space {
	t.Helper()
	s, e := space.Open(d, from, to)
	if s == nil || e != api.OK {
		t.Fatalf("Open(%d, %d): %v, error %d", from, to, s, e)
	}
	return s
}

func refusesOpen(t *testing.T, what string, d *disk.Disk, from, to int, want api.Errno) {
	t.Helper()
	if s, e := space.Open(d, from, to); s != nil || e != want {
		t.Errorf("%s: Open(%d, %d): %v, error %d, want none, error %d", what, from, to, s, e, want)
	}
}

// small is a space of so many pages, on a disk of its own, which it has whole.
func small(t *testing.T, pages int) (*disk.Disk, *space.Space) {
	t.Helper()
	d := newDisk(t, 8*(pages+3))
	return d, opened(t, d, 0, d.Size())
}

func allocs(t *testing.T, s *space.Space, want ...int) {
	t.Helper()
	for _, n := range want {
		if got, e := s.Alloc(); got != n || e != api.OK {
			t.Fatalf("Alloc: %d, error %d, want %d", got, e, n)
		}
	}
}

func refusesAlloc(t *testing.T, s *space.Space, want api.Errno) {
	t.Helper()
	if n, e := s.Alloc(); n != 0 || e != want {
		t.Fatalf("Alloc: %d, error %d, want 0, error %d", n, e, want)
	}
}

func reads(t *testing.T, what string, s *space.Space, n int, want string) {
	t.Helper()
	if b, e := s.Read(n); b != want || e != api.OK {
		t.Fatalf("%s: Read(%d): %q, error %d, want %q", what, n, b, e, want)
	}
}

func refusesRead(t *testing.T, what string, s *space.Space, n int, want api.Errno) {
	t.Helper()
	if b, e := s.Read(n); b != "" || e != want {
		t.Fatalf("%s: Read(%d): %q, error %d, want nothing, error %d", what, n, b, e, want)
	}
}

func named(t *testing.T, what string, s *space.Space, name string, want int) {
	t.Helper()
	if n, ok := s.Named(name); n != want || ok != (want != 0) {
		t.Fatalf("%s: Named(%q): %d, %t, want %d", what, name, n, ok, want)
	}
}

func commits(t *testing.T, s *space.Space) {
	t.Helper()
	must(t, "Commit", s.Commit(), api.OK)
}

func crash(t *testing.T, d *disk.Disk, kept ...int) {
	t.Helper()
	must(t, "Crash", d.Crash(kept), api.OK)
}

// putOff lets the power of a disk go off, and writes nothing.
func putOff(t *testing.T, d *disk.Disk) {
	t.Helper()
	must(t, "Fuse(0)", d.Fuse(0), api.OK)
	must(t, "Flush", d.Flush(), api.ErrOff)
}

// dice are numbers that look like chance, the same ones in each run.
type dice uint64

func (x *dice) below(n int) int {
	*x ^= *x << 13
	*x ^= *x >> 7
	*x ^= *x << 17
	return int(uint64(*x) >> 20 % uint64(n))
}

func pick[T any](x *dice, of ...T) T { return of[x.below(len(of))] }

// step is any call; some of them are refused.
func (x *dice) step(size int) step {
	n := x.below(size+4) - 1
	name := pick(x, "a", "b", "root", "\x00", "\x00\x00", "12345678", "\xff\xff\xff\xff\xff\xff\xff\xff", "B", "", "123456789")
	switch x.below(20) {
	case 0, 1, 2, 3, 4:
		return step{kind: "Alloc"}
	case 5, 6, 7:
		return step{kind: "Release", n: n}
	case 8, 9, 10, 11:
		return step{kind: "Write", n: n, text: pick(x, full(x.below(1000)), full(x.below(1000)), blank, full(1)[1:], full(1)+"x")}
	case 12, 13:
		return step{kind: "Name", n: n, text: name}
	case 14, 15:
		return step{kind: "Forget", text: name}
	case 16:
		return step{kind: "Rollback"}
	}
	return step{kind: "Commit"}
}

func (x *dice) steps(n, size int) []step {
	var out []step
	for range n {
		out = append(out, x.step(size))
	}
	return out
}
