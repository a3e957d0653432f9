package page_test

import (
	"fmt"
	"slices"
	"strings"
	"testing"

	"quayside/api"
	"quayside/page"
)

// TestPg3ReadAgain: a page that is read has the bytes of which it was, ahead of changes and behind them.
func TestPg3ReadAgain(t *testing.T) {
	for _, m := range models() {
		p := made(t, m)
		bytesAre(t, "read", read(t, p.Bytes()), m.bytes())
		for _, c := range m.cells {
			must(t, "Drop", p.Drop(c.key), api.OK)
			bytesAre(t, "read behind Drop", read(t, p.Bytes()), p.Bytes())
		}
		for _, c := range slices.Backward(m.cells) {
			must(t, "Put", p.Put(c.key, c.value), api.OK)
			bytesAre(t, "read behind Put", read(t, p.Bytes()), p.Bytes())
		}
	}
}

// TestPg3OneByte: any byte any other one.
func TestPg3OneByte(t *testing.T) {
	for _, m := range []model{{kind: 1}, some(), leaving(1)} {
		s := m.bytes()
		b := []byte(s)
		for at := range b {
			for x := range 255 {
				b[at] = s[at] + byte(x+1)
				isNone(t, fmt.Sprintf("the byte %d is %d in place of %d", at, b[at], s[at]), string(b))
			}
			b[at] = s[at]
		}
	}
}

// TestPg3FourBytes: two, three and four bytes in a row other ones, or noughts, or moved.
func TestPg3FourBytes(t *testing.T) {
	x := dice(4711)
	for _, m := range models() {
		s := m.bytes()
		for n := 2; n <= 4; n++ {
			for at := range 256 - n + 1 {
				for way := range 12 {
					b := []byte(s)
					spoil(b[at:at+n], way, &x)
					if string(b) != s {
						isNone(t, fmt.Sprintf("%d bytes from %d on are % x in place of % x", n, at, b[at:at+n], s[at:at+n]), string(b))
					}
				}
			}
		}
	}
}

// spoil makes of some bytes others, in one of some ways.
func spoil(b []byte, way int, x *dice) {
	switch way {
	case 0:
		clear(b)
	case 1:
		slices.Reverse(b)
	case 2:
		for k := range b {
			b[k] = ^b[k]
		}
	case 3:
		b[0] ^= 1
		b[len(b)-1] ^= 128
	case 4:
		copy(b, slices.Concat(b[1:], b[:1]))
	default:
		for k := range b {
			b[k] = byte(x.below(256))
		}
	}
}

// TestPg3AcrossTheSum: four bytes in a row that are partly the sum's own and partly of what it sums can, seldom, be those of another page: by the chapter's words there are both, and each is read as what it is.
func TestPg3AcrossTheSum(t *testing.T) {
	v, w := strings.Repeat("v", 22), strings.Repeat("w", 30)
	one := model{1, []cell{{"k", ""}, {"m", v + "a" + w}}}
	other := model{1, []cell{{"a", w + "k"}, {"m", v}}}
	a, b := one.bytes(), other.bytes()
	if a[:5] != b[:5] || a[9:] != b[9:] {
		t.Fatalf("% x\n% x", a, b)
	}
	same(t, "the one", read(t, a), one)
	same(t, "the other one", read(t, b), other)
}

func TestPg3SplitAndJoin(t *testing.T) {
	for _, m := range models() {
		p := made(t, m)
		for k := range len(m.cells) + 1 {
			q, e := p.Split(k)
			must(t, "Split", e, api.OK)
			must(t, "Join", p.Join(q), api.OK)
			same(t, fmt.Sprintf("split at %d and joined again", k), p, m)
		}
	}
}

// TestPg3SplitAndJoinMany: in three parts, joined from the first one on, and from the last one on.
func TestPg3SplitAndJoinMany(t *testing.T) {
	m := some()
	for i := range len(m.cells) + 1 {
		for j := i; j <= len(m.cells); j++ {
			for _, firstOnes := range []bool{true, false} {
				p := made(t, m)
				r, _ := p.Split(j)
				q, _ := p.Split(i)
				if firstOnes {
					must(t, "Join", p.Join(q), api.OK)
					must(t, "Join", p.Join(r), api.OK)
				} else {
					must(t, "Join", q.Join(r), api.OK)
					must(t, "Join", p.Join(q), api.OK)
				}
				same(t, fmt.Sprintf("split at %d and %d", i, j), p, m)
			}
		}
	}
}

// held is a page, and what it should be.
type held struct {
	page  *page.Page
	model model
}

// TestLongRun: some pages, changed in turns by all that there is, held against plain lists of cells.
func TestLongRun(t *testing.T) {
	for seed := range 12 {
		x := dice(seed*7919 + 1)
		var all [4]held
		for k := range all {
			all[k] = held{newPage(t, 1+k/2), model{kind: 1 + k/2}}
		}
		full, none, joined := 0, 0, 0
		for step := range 4000 {
			what := fmt.Sprintf("seed %d, step %d", seed, step)
			h, o := &all[x.below(len(all))], &all[x.below(len(all))]
			var e api.Errno
			switch x.below(12) {
			default:
				key, value := x.drawn()
				e = h.put(t, what, key, value)
			case 0, 1, 2:
				e = h.drop(t, what, &x)
			case 3:
				h.splitAndJoin(t, what, &x)
			case 4:
				e = h.join(t, what, o)
				if e == api.OK {
					joined++
				}
			case 5:
				h.page = h.page.Copy()
			case 6:
				h.page = read(t, h.page.Bytes())
			case 7:
				if x.below(20) == 0 {
					*h = held{newPage(t, h.model.kind), model{kind: h.model.kind}}
				}
			}
			full, none = full+told(e == api.ErrFull), none+told(e == api.ErrNone)
			same(t, what, h.page, h.model)
			same(t, what+", another one", o.page, o.model)
		}
		if full < 100 || none < 100 || joined < 5 {
			t.Fatalf("seed %d: too few of some: %d full, %d none, %d joined", seed, full, none, joined)
		}
	}
}

func told(is bool) int {
	if is {
		return 1
	}
	return 0
}

func (h *held) put(t *testing.T, what, key, value string) api.Errno {
	t.Helper()
	m, want := h.model.put(key, value)
	must(t, fmt.Sprintf("%s: Put(%q, %q)", what, key, value), h.page.Put(key, value), want)
	h.model = m
	return want
}

func (h *held) drop(t *testing.T, what string, x *dice) api.Errno {
	t.Helper()
	key, _ := x.drawn()
	if n := len(h.model.cells); n > 0 && x.below(2) == 0 {
		key = h.model.cells[x.below(n)].key
	}
	m, want := h.model.drop(key)
	must(t, fmt.Sprintf("%s: Drop(%q)", what, key), h.page.Drop(key), want)
	h.model = m
	return want
}

func (h *held) splitAndJoin(t *testing.T, what string, x *dice) {
	t.Helper()
	k := x.below(len(h.model.cells) + 1)
	q, e := h.page.Split(k)
	must(t, what+": Split", e, api.OK)
	first, rest := h.model.split(k)
	same(t, what+": what goes", q, rest)
	same(t, what+": what stays", h.page, first)
	if x.below(3) == 0 {
		h.page, h.model = q, rest
		return
	}
	must(t, what+": Join", h.page.Join(q), api.OK)
}

func (h *held) join(t *testing.T, what string, o *held) api.Errno {
	t.Helper()
	m, want := h.model.join(o.model)
	must(t, what+": Join", h.page.Join(o.page), want)
	h.model = m
	return want
}
