package page_test

import (
	"fmt"
	"slices"
	"strings"
	"testing"

	"quayside/api"
	"quayside/page"
)

// puts does it to both, and holds them against each other.
func puts(t *testing.T, p *page.Page, m model, key, value string, want api.Errno) model {
	t.Helper()
	what := fmt.Sprintf("Put(%q, %d bytes)", key, len(value))
	must(t, what, p.Put(key, value), want)
	after, e := m.put(key, value)
	must(t, what+" of the model", e, want)
	same(t, what, p, after)
	return after
}

func TestPg2PutBounds(t *testing.T) {
	for _, m := range []model{{kind: 8}, {8, []cell{{"a", "v"}, {"z", "v"}}}, {8, []cell{{"kk", "v"}}}} {
		for key := range 300 {
			for _, size := range []int{key, key + 1, 99, 100, 101, 102, 256, 300, 356, 512, 1 << 16} {
				if size < key {
					continue
				}
				want := api.OK
				if key < 1 || key > 80 || size > 100 {
					want = api.ErrArg
				}
				puts(t, made(t, m), m, strings.Repeat("k", key), strings.Repeat("v", size-key), want)
			}
		}
	}
}

// TestPg2PutNamedBounds are those at which a cell is just one, or just none.
func TestPg2PutNamedBounds(t *testing.T) {
	for _, x := range []struct {
		key, value int
		want       api.Errno
	}{
		{0, 0, api.ErrArg}, {0, 1, api.ErrArg}, {0, 100, api.ErrArg}, {1, 0, api.OK}, {1, 99, api.OK}, {1, 100, api.ErrArg}, {80, 0, api.OK}, {80, 20, api.OK}, {80, 21, api.ErrArg}, {81, 0, api.ErrArg}, {81, 19, api.ErrArg}, {100, 0, api.ErrArg}, {79, 21, api.OK}, {79, 22, api.ErrArg},
	} {
		p := newPage(t, 1)
		must(t, fmt.Sprint(x), p.Put(strings.Repeat("k", x.key), strings.Repeat("v", x.value)), x.want)
		if there := p.Len() == 1; there != (x.want == api.OK) {
			t.Errorf("%v: Len %d", x, p.Len())
		}
	}
}

// TestPg2PutOrder: whatever the order, the cells are by their keys, and the bytes the same.
func TestPg2PutOrder(t *testing.T) {
	cells := []cell{{"a", "1"}, {"b", "22"}, {"bb", ""}, {"c", "4444"}, {"\xff", "5"}}
	want := model{2, cells}.bytes()
	var each func(left, done []cell)
	orders := 0
	each = func(left, done []cell) {
		if len(left) == 0 {
			p, m := newPage(t, 2), model{kind: 2}
			for _, c := range done {
				m = puts(t, p, m, c.key, c.value, api.OK)
			}
			bytesAre(t, fmt.Sprint(done), p, want)
			orders++
		}
		for k := range left {
			each(slices.Delete(slices.Clone(left), k, k+1), append(slices.Clone(done), left[k]))
		}
	}
	each(cells, nil)
	if orders != 120 {
		t.Errorf("%d orders", orders)
	}
}

// TestPg2PutInPlace: a value of any size takes the place of another one, of each cell, and the others stay.
func TestPg2PutInPlace(t *testing.T) {
	for _, m := range models() {
		for _, c := range m.cells {
			for size := range 101 {
				value := strings.Repeat("w", size)
				after, want := m.put(c.key, value)
				p := made(t, m)
				must(t, fmt.Sprintf("Put(%q, %d bytes)", c.key, size), p.Put(c.key, value), want)
				same(t, fmt.Sprintf("Put(%q, %d bytes)", c.key, size), p, after)
			}
		}
	}
}

// TestPg2PutRoomInPlace: where no other cell has room one with the same key has it, up to what the elder one leaves.
func TestPg2PutRoomInPlace(t *testing.T) {
	for room := range 3 {
		m := leaving(room)
		p := made(t, m)
		puts(t, p, m, "b", "", api.ErrFull)
		puts(t, p, m, "f", "", api.ErrFull)
		m = puts(t, p, m, "e", strings.Repeat("w", 41-room), api.OK)
		puts(t, p, m, "e", strings.Repeat("x", 42), api.ErrFull)
		puts(t, p, m, "e", strings.Repeat("x", 99), api.ErrFull)
		m = puts(t, p, m, "e", strings.Repeat("x", 41), api.OK)
		puts(t, p, m, "e", strings.Repeat("y", 42), api.ErrFull)
		m = puts(t, p, m, "c", strings.Repeat("y", 99), api.OK)
		m = puts(t, p, m, "c", "", api.OK)
		m = puts(t, p, m, "e", strings.Repeat("z", 99), api.OK)
		puts(t, p, m, "c", strings.Repeat("z", 42), api.ErrFull)
		puts(t, p, m, "c", strings.Repeat("z", 41), api.OK)
	}
}

// TestPg2PutMost: a page takes 82 cells of one byte, and no more; one that went makes room again.
func TestPg2PutMost(t *testing.T) {
	p, m := made(t, most()), most()
	puts(t, p, m, "\x01", "", api.ErrFull)
	puts(t, p, m, "\x00", "1", api.OK)
	must(t, "Put", p.Put("\x00", "12"), api.OK)
	must(t, "Put", p.Put("\x00", "123"), api.ErrFull)
	must(t, "Put", p.Put("\x00", ""), api.OK)
	must(t, "Drop", p.Drop("\x03"), api.OK)
	must(t, "Put", p.Put("\x01", ""), api.OK)
	m.cells[1].key = "\x01"
	same(t, "another one in its place", p, m)
}

// TestPg2PutFull: a cell that has no room is not there, and the page is as it was.
func TestPg2PutFull(t *testing.T) {
	for _, m := range models() {
		p := made(t, m)
		for size := max(m.free()+1, 3); size <= 100; size++ {
			puts(t, p, m, "aaa", strings.Repeat("v", size-3), api.ErrFull)
			puts(t, p, m, "\xff\xff\xff", strings.Repeat("v", size-3), api.ErrFull)
		}
	}
}

func TestPg2Drop(t *testing.T) {
	for _, m := range models() {
		for k, c := range m.cells {
			p := made(t, m)
			must(t, fmt.Sprintf("Drop(%q)", c.key), p.Drop(c.key), api.OK)
			after, _ := m.drop(c.key)
			same(t, fmt.Sprintf("without the cell %d", k), p, after)
			must(t, fmt.Sprintf("Drop(%q) again", c.key), p.Drop(c.key), api.ErrNone)
			same(t, "dropped twice", p, after)
			must(t, "Put again", p.Put(c.key, c.value), api.OK)
			same(t, "put again", p, m)
		}
		p := made(t, m)
		for _, key := range []string{"", "aaa", "\xff\xff\xff", "zz", strings.Repeat("k", 81), strings.Repeat("k", 1000)} {
			must(t, fmt.Sprintf("Drop(%q)", key), p.Drop(key), api.ErrNone)
			same(t, "what is not there dropped", p, m)
		}
	}
}

// TestPg2DropAll: from the first one on, from the last one on, and from the midst on, down to a page like a new one.
func TestPg2DropAll(t *testing.T) {
	for _, m := range models() {
		for _, which := range []func(n int) int{func(n int) int { return 0 }, func(n int) int { return n - 1 }, func(n int) int { return n / 2 }} {
			p, left := made(t, m), m
			for len(left.cells) > 0 {
				key := left.cells[which(len(left.cells))].key
				must(t, "Drop", p.Drop(key), api.OK)
				left, _ = left.drop(key)
				same(t, "Drop", p, left)
			}
			bytesAre(t, "all dropped", p, newPage(t, m.kind).Bytes())
		}
	}
}

func TestPg2Split(t *testing.T) {
	for _, m := range models() {
		for k := range len(m.cells) + 1 {
			p := made(t, m)
			q, e := p.Split(k)
			must(t, fmt.Sprintf("Split(%d)", k), e, api.OK)
			first, rest := m.split(k)
			same(t, fmt.Sprintf("what stays at Split(%d)", k), p, first)
			same(t, fmt.Sprintf("what goes at Split(%d)", k), q, rest)
			must(t, "Put", p.Put("\xff\xff\xff", "p"), second(first.put("\xff\xff\xff", "p")))
			same(t, "what goes, behind a change of the other one", q, rest)
		}
		p := made(t, m)
		for _, k := range []int{-1, -2, len(m.cells) + 1, len(m.cells) + 2, 256, -256, 1 << 32, api.MinInt, api.MaxInt} {
			if q, e := p.Split(k); q != nil || e != api.ErrArg {
				t.Errorf("Split(%d) of %d: %v, error %d", k, len(m.cells), q, e)
			}
			same(t, fmt.Sprintf("Split(%d)", k), p, m)
		}
	}
}

func second(_ model, e api.Errno) api.Errno { return e }

// joins does it to both, and holds them against each other; the page that is taken stays as it is.
func joins(t *testing.T, p, q model, want api.Errno) {
	t.Helper()
	what := fmt.Sprintf("Join of %d and %d cells", len(p.cells), len(q.cells))
	a, b := made(t, p), made(t, q)
	must(t, what, a.Join(b), want)
	after, e := p.join(q)
	must(t, what+" of the models", e, want)
	same(t, what, a, after)
	same(t, what+", the other one", b, q)
	a.Put("n", "new")
	b.Drop("x")
	b.Put("o", "new")
	changed, _ := after.put("n", "new")
	same(t, what+", changed behind", a, changed)
}

func TestPg2Join(t *testing.T) {
	one := model{1, []cell{{"b", "1"}, {"d", "2"}}}
	for _, x := range []struct {
		cells []cell
		want  api.Errno
	}{
		{nil, api.OK},
		{[]cell{{"e", "3"}}, api.OK},
		{[]cell{{"d\x00", "3"}}, api.OK},
		{[]cell{{"x", ""}, {"xx", "4"}, {"z", ""}}, api.OK},
		{[]cell{{"d", "2"}}, api.ErrArg},
		{[]cell{{"c", ""}}, api.ErrArg},
		{[]cell{{"a", ""}}, api.ErrArg},
		{[]cell{{"b", "1"}, {"d", "2"}}, api.ErrArg},
		{[]cell{{"c", ""}, {"e", ""}}, api.ErrArg},
		{[]cell{{"a", ""}, {"e", ""}}, api.ErrArg},
		{[]cell{{"a", ""}, {"c", ""}}, api.ErrArg},
		{[]cell{{"b", ""}, {"e", ""}, {"f", ""}}, api.ErrArg},
	} {
		joins(t, one, model{1, x.cells}, x.want)
		joins(t, model{kind: 1}, model{1, x.cells}, api.OK)
		joins(t, one, model{2, x.cells}, api.ErrArg)
		joins(t, model{kind: 255}, model{1, x.cells}, api.ErrArg)
	}
}

// TestPg2JoinRoom: pages that fill one just, and those of a byte, or of a cell, more.
func TestPg2JoinRoom(t *testing.T) {
	p := model{3, []cell{{"a", strings.Repeat("1", 99)}, {"c", strings.Repeat("2", 99)}}}
	for size := 1; size <= 100; size++ {
		want := api.OK
		if size > p.free() {
			want = api.ErrFull
		}
		joins(t, p, model{3, []cell{{"x", strings.Repeat("v", size-1)}}}, want)
	}
	for room := range 10 {
		for k := range 4 {
			first, rest := leaving(room).split(k)
			joins(t, first, rest, api.OK)
			rest.cells = append(rest.cells, cell{"x", strings.Repeat("v", room)})
			if k > 0 {
				joins(t, first, rest, api.ErrFull)
			}
		}
		want := api.OK
		if room < 3 {
			want = api.ErrFull
		}
		joins(t, leaving(room), model{3, []cell{{"f", ""}}}, want)
	}
}

// TestPg2JoinMost: pages of 82 cells together, and those of one more.
func TestPg2JoinMost(t *testing.T) {
	all := most()
	for k := range 83 {
		first, rest := all.split(k)
		joins(t, first, rest, api.OK)
		rest.cells = append(rest.cells, cell{key: "\xfe"})
		if k > 0 {
			joins(t, first, rest, api.ErrFull)
		}
	}
	joins(t, all, model{kind: 255}, api.OK)
	joins(t, model{kind: 255}, all, api.OK)
}

// TestPg2JoinItself: no key stands behind itself, but of a page without cells there is none to stand so.
func TestPg2JoinItself(t *testing.T) {
	for _, m := range models() {
		p := made(t, m)
		want := api.ErrArg
		if len(m.cells) == 0 {
			want = api.OK
		}
		must(t, "Join of a page with itself", p.Join(p), want)
		same(t, "joined with itself", p, m)
		must(t, "Join of a page with its copy", p.Join(p.Copy()), want)
		same(t, "joined with its copy", p, m)
	}
}

func TestPg2JoinNone(t *testing.T) {
	for _, m := range models() {
		p := made(t, m)
		for _, q := range []*page.Page{nil, new(page.Page), {}} {
			must(t, "Join of none", p.Join(q), api.ErrArg)
			same(t, "joined with none", p, m)
		}
	}
}

func TestPg2Copy(t *testing.T) {
	for _, m := range models() {
		p := made(t, m)
		q := p.Copy()
		if q == p {
			t.Fatal("the copy is the page itself")
		}
		same(t, "the copy", q, m)
		must(t, "Put", p.Put("aaaa", "v"), second(m.put("aaaa", "v")))
		after, _ := m.put("aaaa", "v")
		same(t, "the copy behind a change of the page", q, m)
		same(t, "the page behind its change", p, after)
		r := p.Copy()
		for _, c := range after.cells {
			must(t, "Drop", r.Drop(c.key), api.OK)
		}
		same(t, "the copy behind its change", r, model{kind: m.kind})
		same(t, "the page behind a change of the copy", p, after)
		same(t, "the first copy", q, m)
	}
}
