package table

import (
	"cmp"
	"slices"
	"strings"
	"testing"

	"quayside/api"
	"quayside/value"
)

// values are some of each kind, many of which may not be, with noughts and their like inside texts.
func values() []api.Value {
	var out []api.Value
	for _, kind := range []int{api.MinInt, -1, api.Null, api.Int, api.Text, api.Bool, 4, 256, api.MaxInt} {
		for _, n := range []int{api.MinInt, -1, 0, 1, 256, api.MaxInt} {
			for _, s := range []string{"", "\x00", "\x00\x00", "\x00\xff", "\x00\x00\xff", "\x01", "a", "a\x00", "a\x00\xff", "a\x01", "ab", "\xff", "\xff\x00", strings.Repeat("a", 65)} {
				out = append(out, api.Value{Kind: kind, N: n, S: s})
			}
		}
	}
	return out
}

// TestPlaces: places stand as their values do by Compare, whatever these are; what begins a place does not change that.
func TestPlaces(t *testing.T) {
	all := values()
	for _, a := range all {
		for _, b := range all {
			want := value.Compare(a, b)
			if cmp.Compare(placeOf(a), placeOf(b)) != want {
				t.Fatalf("%v, %v: not %d", a, b, want)
			}
			for _, end := range []bool{false, true} {
				in := edge(a, end) <= placeOf(b, a)
				if in != (want < 0 || want == 0 && !end) {
					t.Fatalf("the edge of %v, %v, at %v: %v", a, end, b, in)
				}
			}
		}
	}
}

// TestPlacesOfMany: places of several values stand as the rows do, the shorter one first where it is the longer one's beginning.
func TestPlacesOfMany(t *testing.T) {
	seed := uint64(2463534242)
	drawn := func() api.Row {
		var r api.Row
		for range seed >> 33 % 4 {
			seed ^= seed << 13
			seed ^= seed >> 7
			seed ^= seed << 17
			r = append(r, []api.Value{{}, {Kind: api.Int, N: 1}, {Kind: api.Text}, {Kind: api.Text, S: "\x00"}, {Kind: api.Text, S: "a"}, {Kind: api.Text, S: "a\x00"}, {Kind: api.Bool}}[seed>>20%7])
		}
		seed ^= seed << 13
		seed ^= seed >> 7
		seed ^= seed << 17
		return r
	}
	for range 20000 {
		a, b := drawn(), drawn()
		if want := slices.CompareFunc(a, b, value.Compare); cmp.Compare(placeOf(a...), placeOf(b...)) != want {
			t.Fatalf("%v, %v: not %d", a, b, want)
		}
	}
}

// settled tells whether each row stands in each index, once, and nothing else does.
func settled(x Table) bool {
	if x.places.Len() != x.rows.Len() {
		return false
	}
	for key, n := range x.places.All() {
		r, there := x.rows.Get(n)
		if !there || placeOf(r[:len(x.by)]...) != key {
			return false
		}
		for col, i := range x.indexes {
			m, there := i.order.Get(placeOf(r[col]) + key)
			if !there || m != n || !slices.Contains(i.same.Find(r[col]), n) {
				return false
			}
		}
	}
	return !slices.ContainsFunc(x.indexes, func(i index) bool {
		return i.order.Len() != x.rows.Len() || i.same.Len() != x.rows.Len()
	})
}

// TestSettled: indexes agree with the rows behind each change, and nothing is left in them of what went.
func TestSettled(t *testing.T) {
	for keys := 1; keys <= 3; keys++ {
		columns := []api.Column{{Name: "a", Kind: api.Int}, {Name: "b", Kind: api.Text, Null: true}, {Name: "c", Kind: api.Bool, Null: true}}
		x, e := New("t", columns, keys)
		if e != api.OK {
			t.Fatal(e)
		}
		seed := uint64(88172645463325252)
		for step := range 1200 {
			seed ^= seed << 13
			seed ^= seed >> 7
			seed ^= seed << 17
			r := api.Row{{Kind: api.Int, N: int(seed >> 8 % 50)}, {Kind: api.Text, S: string([]byte{byte(seed >> 20 % 5)})}, {Kind: api.Bool, N: int(seed >> 30 % 2)}}
			if seed>>40%4 == 0 {
				r[1+seed>>42%2] = api.Value{}
			}
			if seed>>50%10 < uint64(2+6*(step/400%2)) {
				x = x.Without(r[:keys])
			} else if x, e = x.With(r); e != api.OK {
				t.Fatal(e)
			}
			if !settled(x) {
				t.Fatalf("%d keys, step %d: not settled", keys, step)
			}
		}
	}
}

// TestKept: rows that a ledger's tables have already are not put anew: what they had is shared.
func TestKept(t *testing.T) {
	l := api.Ledger{Stocks: []api.Stock{{Sku: "s", Loc: "x", OnHand: 3}, {Sku: "t", Loc: "x"}}, Moves: []api.Move{{Seq: 1, Sku: "s", Loc: "x", Delta: 3, Kind: api.OpReceive}}}
	s, e := Of(l)
	if e != api.OK {
		t.Fatal(e)
	}
	n, e := s.Next(l)
	if e != api.OK || n.stock.rows != s.stock.rows || n.holds.rows != s.holds.rows || n.moves.rows != s.moves.rows {
		t.Error("tables of the same ledger are made anew", e)
	}
	if n.stock.given != 2 || !settled(n.stock) || !settled(n.moves) {
		t.Error(n.stock.given)
	}
}
