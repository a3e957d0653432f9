package page_test

import (
	"fmt"
	"slices"
	"strings"
	"testing"

	"quayside/api"
	"quayside/page"
)

// TestR1None: of nil, and of a page that was not given, all calls answer zero values.
func TestR1None(t *testing.T) {
	var none *page.Page
	for _, p := range []*page.Page{none, new(page.Page), {}} {
		if p.Bytes() != "" || p.Kind() != 0 || p.Len() != 0 || p.Free() != 0 || p.Copy() != nil {
			t.Errorf("Bytes %q, Kind %d, Len %d, Free %d, Copy %v", p.Bytes(), p.Kind(), p.Len(), p.Free(), p.Copy())
		}
		for _, k := range []int{0, 1, -1, 255, api.MinInt, api.MaxInt} {
			if key, value := p.At(k); key != "" || value != "" {
				t.Errorf("At(%d): %q, %q", k, key, value)
			}
			if q, e := p.Split(k); q != nil || e != api.ErrArg {
				t.Errorf("Split(%d): %v, error %d", k, q, e)
			}
		}
		for _, key := range []string{"", "k", strings.Repeat("k", 100)} {
			finds(t, "none", p, key, 0, false)
			must(t, "Put", p.Put(key, ""), api.ErrArg)
			must(t, "Put", p.Put(key, "v"), api.ErrArg)
			must(t, "Drop", p.Drop(key), api.ErrArg)
		}
		for _, q := range []*page.Page{none, new(page.Page), p, newPage(t, 1), made(t, some())} {
			must(t, "Join", p.Join(q), api.ErrArg)
		}
		if p.Len() != 0 || p.Bytes() != "" {
			t.Error("refused calls have changed it")
		}
	}
}

// TestR1Read: whatever the bytes, with a right sum, Read ends without a panic; what it takes has these bytes, and cells that may be.
func TestR1Read(t *testing.T) {
	x := dice(99)
	taken := 0
	for _, m := range models() {
		s := m.bytes()
		for range 4000 {
			n := 1 + x.below(3)
			forgery := forged(s, func(b []byte) {
				for range n {
					at := x.below(8 + 2*len(m.cells) + 4)
					if x.below(4) == 0 {
						at = x.below(256)
					}
					b[min(at, 255)] = byte(x.below(256))
				}
			})
			if p, e := page.Read(forgery); e == api.OK {
				taken++
				sound(t, p, forgery)
			} else if p != nil || e != api.ErrPage {
				t.Fatalf("Read: %v, error %d", p, e)
			}
		}
	}
	if taken < 100 {
		t.Errorf("only %d were taken", taken)
	}
	for range 4000 {
		forgery := sealed([]byte(x.text(256, 2+x.below(255))))
		if p, e := page.Read(forgery); e == api.OK {
			sound(t, p, forgery)
		}
	}
}

// sound: it is the page of these cells, which may be.
func sound(t *testing.T, p *page.Page, s string) {
	t.Helper()
	m := model{kind: p.Kind()}
	for k := range p.Len() {
		key, value := p.At(k)
		after, e := m.put(key, value)
		must(t, fmt.Sprintf("the cell %d of % x", k, s), e, api.OK)
		m = after
	}
	same(t, "read", p, m)
	if m.bytes() != s {
		t.Fatalf("read of\n% x, is\n% x", s, m.bytes())
	}
}

// TestR1Calls: every call ends without a panic, at all arguments.
func TestR1Calls(t *testing.T) {
	defer func() {
		if r := recover(); r != nil {
			t.Error("panic:", r)
		}
	}()
	numbers := []int{api.MinInt, api.MinInt + 1, -257, -256, -1, 0, 1, 2, 81, 82, 83, 127, 128, 255, 256, 257, api.MaxInt - 1, api.MaxInt}
	texts := []string{"", "\x00", "k", strings.Repeat("\xff", 80), strings.Repeat("k", 81), strings.Repeat("k", 255), strings.Repeat("k", 256), strings.Repeat("k", 257), strings.Repeat("k", 1<<20)}
	for _, m := range models() {
		for _, n := range numbers {
			page.New(n)
			made(t, m).At(n)
			made(t, m).Split(n)
		}
		for _, s := range texts {
			page.Read(s)
			made(t, m).Find(s)
			made(t, m).Drop(s)
			for _, v := range texts {
				made(t, m).Put(s, v)
			}
		}
		for _, o := range models() {
			made(t, m).Join(made(t, o))
		}
	}
}

// TestR2Order: what may not be is told ahead of what has no room.
func TestR2Order(t *testing.T) {
	p := made(t, leaving(0))
	must(t, "Put of no cell into a full page", p.Put("", ""), api.ErrArg)
	must(t, "Put of a long key into a full page", p.Put(strings.Repeat("k", 81), ""), api.ErrArg)
	must(t, "Put of a long cell into a full page", p.Put("k", strings.Repeat("v", 100)), api.ErrArg)
	must(t, "Put of a long cell in place of another one", p.Put("a", strings.Repeat("v", 100)), api.ErrArg)
	must(t, "Join of keys that do not stand behind with a full page", p.Join(made(t, model{3, []cell{{"b", "v"}}})), api.ErrArg)
	must(t, "Join of another kind with a full page", p.Join(made(t, model{4, []cell{{"x", "v"}}})), api.ErrArg)
	must(t, "Join of none with a full page", p.Join(nil), api.ErrArg)
	must(t, "Join with a full page", p.Join(made(t, model{3, []cell{{"x", "v"}}})), api.ErrFull)
	same(t, "refused", p, leaving(0))
}

// TestR2Refused: calls that are refused change nothing that a later call could tell.
func TestR2Refused(t *testing.T) {
	for _, m := range models() {
		p, q := made(t, m), made(t, m)
		other := made(t, model{m.kind, []cell{{"\x00", ""}}})
		for range 3 {
			p.Put("", "v")
			p.Put("k", strings.Repeat("v", 100))
			p.Put(strings.Repeat("k", 81), "")
			if m.free() < 99 {
				must(t, "Put", p.Put("kkkk", strings.Repeat("v", 96)), api.ErrFull)
			}
			p.Drop("kkkk")
			p.Split(-1)
			p.Split(len(m.cells) + 1)
			p.Join(nil)
			p.Join(newPage(t, 256-m.kind))
			if len(m.cells) > 0 {
				must(t, "Join", p.Join(other), api.ErrArg)
				must(t, "Join", p.Join(p), api.ErrArg)
			}
			same(t, "behind refused calls", p, m)
		}
		for _, c := range m.cells {
			must(t, "Drop", p.Drop(c.key), q.Drop(c.key))
			bytesAre(t, "later calls", p, q.Bytes())
		}
	}
}

// TestR3: what was answered does not change when the page does, nor does what was handed in.
func TestR3(t *testing.T) {
	m := some()
	p := made(t, m)
	s := p.Bytes()
	var answers []string
	for k := range p.Len() {
		key, value := p.At(k)
		answers = append(answers, key, value)
	}
	kept := slices.Clone(answers)
	for k := range answers {
		kept[k] = strings.Clone(answers[k])
	}
	read := read(t, s)
	rest, _ := p.Split(3)
	for _, c := range m.cells {
		p.Drop(c.key)
		read.Drop(c.key)
		rest.Put(c.key, "")
	}
	p.Put("other", strings.Repeat("o", 90))
	if !slices.Equal(answers, kept) || s != m.bytes() {
		t.Errorf("%q, want %q", answers, kept)
	}
	same(t, "what was split off", rest, func() model {
		_, want := m.split(3)
		for _, c := range m.cells {
			want, _ = want.put(c.key, "")
		}
		return want
	}())
}

// TestR4: the same cells are the same bytes, whatever was there ahead, and in whatever way they came.
func TestR4(t *testing.T) {
	x := dice(31337)
	for _, m := range models() {
		for round := range 20 {
			p := newPage(t, m.kind)
			for range 40 {
				p.Put(x.drawn())
			}
			for p.Len() > 0 {
				key, _ := p.At(x.below(p.Len()))
				must(t, "Drop", p.Drop(key), api.OK)
			}
			for _, c := range m.cells {
				must(t, "Put", p.Put(c.key, c.value), api.OK)
			}
			same(t, fmt.Sprint("round ", round), p, m)
			bytesAre(t, "asked again", p, p.Bytes())
		}
	}
}
