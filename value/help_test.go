package value_test

import (
	"bytes"
	"cmp"
	"encoding/binary"
	"fmt"
	"strings"
	"testing"

	"quayside/api"
	"quayside/value"
)

var null = api.Value{}

func number(n int) api.Value { return api.Value{Kind: api.Int, N: n} }

func text(s string) api.Value { return api.Value{Kind: api.Text, S: s} }

func truth(n int) api.Value { return api.Value{Kind: api.Bool, N: n} }

// mayBe are values of each kind that may be, in order.
func mayBe() []api.Value {
	return []api.Value{
		null,
		number(api.MinInt), number(api.MinInt + 1), number(-1 << 32), number(-257), number(-256), number(-1), number(0), number(1), number(255), number(256), number(1 << 32), number(api.MaxInt - 1), number(api.MaxInt),
		text(""), text("\x00"), text("\x00\x00"), text(" "), text("'"), text("''"), text("A"), text("Z"), text("a"), text("aa"), text("ab"), text("b"), text("it's"), text("\x7f"), text("\x80"), text("\x80a"), text("é"), text("\xff"), text(strings.Repeat("\xff", 63)), text(strings.Repeat("\xff", 64)),
		truth(0), truth(1),
	}
}

// mayNotBe are values of which each has one thing too many.
func mayNotBe() []api.Value {
	return []api.Value{
		{Kind: api.Null, N: 1}, {Kind: api.Null, N: -1}, {Kind: api.Null, S: "a"}, {Kind: api.Null, N: 1, S: "a"},
		{Kind: api.Int, S: "a"}, {Kind: api.Int, N: 1, S: "\x00"},
		{Kind: api.Text, N: 1}, {Kind: api.Text, N: -1, S: "a"}, text(strings.Repeat("a", 65)), text(strings.Repeat("a", 256+64)), {Kind: api.Text, N: api.MinInt, S: strings.Repeat("a", 65)},
		truth(-1), truth(2), truth(256), truth(257), truth(api.MinInt), truth(api.MaxInt), {Kind: api.Bool, S: "a"}, {Kind: api.Bool, N: 1, S: "true"},
		{Kind: -1}, {Kind: -1, N: 1, S: "a"}, {Kind: 4}, {Kind: 4, N: 1}, {Kind: 256}, {Kind: 257}, {Kind: api.MinInt}, {Kind: api.MaxInt, S: "a"},
	}
}

// rawValue is a value's bytes by the library's means.
func rawValue(v api.Value) string {
	switch v.Kind {
	case api.Int:
		return "\x01" + string(binary.BigEndian.AppendUint64(nil, uint64(v.N)+1<<63))
	case api.Text:
		return "\x02" + string([]byte{byte(len(v.S))}) + v.S
	case api.Bool:
		return "\x03" + string([]byte{byte(v.N)})
	}
	return string([]byte{byte(v.Kind)})
}

// rawRow is a row's bytes, of values too that may not be.
func rawRow(r api.Row) string {
	s := string([]byte{byte(len(r))})
	for _, v := range r {
		s += rawValue(v)
	}
	return s
}

// wanted is which of two values stands first, told by the library's means.
func wanted(a, b api.Value) int {
	return cmp.Or(cmp.Compare(a.Kind, b.Kind), cmp.Compare(a.N, b.N), bytes.Compare([]byte(a.S), []byte(b.S)))
}

func compares(t *testing.T, a, b api.Value, want int) {
	t.Helper()
	if got := value.Compare(a, b); got != want {
		t.Errorf("Compare(%v, %v): %d, want %d", a, b, got, want)
	}
	if got := value.Compare(b, a); got != -want {
		t.Errorf("Compare(%v, %v): %d, want %d", b, a, got, -want)
	}
}

func comparesRows(t *testing.T, a, b api.Row, by []api.Sort, want int) {
	t.Helper()
	if got := value.CompareRows(a, b, by); got != want {
		t.Errorf("CompareRows(%v, %v, %v): %d, want %d", a, b, by, got, want)
	}
	if got := value.CompareRows(b, a, by); got != -want {
		t.Errorf("CompareRows(%v, %v, %v): %d, want %d", b, a, by, got, -want)
	}
}

func puts(t *testing.T, r api.Row, want string, err api.Errno) {
	t.Helper()
	if got, e := value.Put(r); got != want || e != err {
		t.Errorf("Put(%.60v): %.60q, error %d; want %.60q, error %d", r, got, e, want, err)
	}
}

func takes(t *testing.T, s string, want api.Row, err api.Errno) {
	t.Helper()
	if got, e := value.Take(s); fmt.Sprint(got) != fmt.Sprint(want) || e != err {
		t.Errorf("Take(%.60q): %.60v, error %d; want %.60v, error %d", s, got, e, want, err)
	}
}

// keeps tells that a row's bytes are as they should be, and taken as they were put.
func keeps(t *testing.T, r api.Row) {
	t.Helper()
	puts(t, r, rawRow(r), api.OK)
	takes(t, rawRow(r), r, api.OK)
}

func shows(t *testing.T, v api.Value, want string) {
	t.Helper()
	if got := value.Show(v); got != want {
		t.Errorf("Show(%v): %s, want %s", v, got, want)
	}
}

// dice are numbers that look like any, the same ones each time.
type dice uint64

func (x *dice) below(n int) int {
	*x ^= *x << 13
	*x ^= *x >> 7
	*x ^= *x << 17
	return int(uint64(*x) >> 20 % uint64(n))
}

// value is one that may be; few ones, so that the same come twice.
func (x *dice) value() api.Value {
	switch x.below(5) {
	case 0:
		return number((x.below(5) - 2) << x.below(63))
	case 1:
		return text(strings.Repeat("'", x.below(2)) + strings.Repeat(string([]byte{byte(x.below(256))}), x.below(64)))
	case 2:
		return text("ab"[:x.below(3)])
	}
	all := mayBe()
	return all[x.below(len(all))]
}

func (x *dice) row(most int) api.Row {
	var r api.Row
	for range x.below(most + 1) {
		r = append(r, x.value())
	}
	return r
}

func (x *dice) keys() []api.Sort {
	var by []api.Sort
	for range x.below(5) {
		by = append(by, api.Sort{Col: x.below(8) - 2, Down: x.below(2) == 0})
	}
	return by
}
