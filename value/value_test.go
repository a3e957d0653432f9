package value_test

import (
	"fmt"
	"hash/crc32"
	"slices"
	"strconv"
	"strings"
	"testing"

	"quayside/api"
	"quayside/value"
)

// TestExample is the chapter's.
func TestExample(t *testing.T) { shows(t, text("it's"), "'it''s'") }

func TestVa1Check(t *testing.T) {
	for _, v := range mayBe() {
		if e := value.Check(v); e != api.OK {
			t.Errorf("Check(%v): error %d", v, e)
		}
	}
	for _, v := range mayNotBe() {
		if e := value.Check(v); e != api.ErrArg {
			t.Errorf("Check(%v): error %d", v, e)
		}
	}
}

// TestVa1Compare holds every two values against each other: of those that may be, their places say which stands first.
func TestVa1Compare(t *testing.T) {
	for k, a := range mayBe() {
		for m, b := range mayBe() {
			want := 0
			if k < m {
				want = -1
			}
			if k <= m {
				compares(t, a, b, want)
			}
		}
	}
	all := append(mayBe(), mayNotBe()...)
	for _, a := range all {
		for _, b := range all {
			compares(t, a, b, wanted(a, b))
		}
	}
}

// TestVa1CompareEdges writes out what differs in one thing, and in several that say otherwise.
func TestVa1CompareEdges(t *testing.T) {
	kinds := []api.Value{{Kind: -5, N: 9, S: "z"}, {N: 8, S: "y"}, {Kind: api.Int, N: 7, S: "x"}, {Kind: api.Text, N: 6, S: "w"}, {Kind: api.Bool, N: 5, S: "v"}, {Kind: 9, N: 4, S: "u"}}
	for k := range len(kinds) - 1 {
		compares(t, kinds[k], kinds[k+1], -1)
	}
	compares(t, api.Value{Kind: api.Text, N: 1, S: "b"}, api.Value{Kind: api.Text, N: 2, S: "a"}, -1)
	compares(t, api.Value{Kind: api.Int, N: -1, S: "b"}, api.Value{Kind: api.Int, N: 0, S: "a"}, -1)
	compares(t, api.Value{Kind: api.Int, N: 3, S: "b"}, api.Value{Kind: api.Int, N: 3, S: "a"}, 1)
	compares(t, api.Value{N: 3}, api.Value{N: 3}, 0)
	compares(t, number(api.MinInt), number(api.MaxInt), -1)
	compares(t, text("ab"), text("abc"), -1)
	compares(t, text(""), text("\x00"), -1)
	compares(t, text("ab"), text("b"), -1)
	compares(t, text("\x7f"), text("\x80"), -1)
	compares(t, text("z"), text("\xc3\xa9"), -1)
	compares(t, text("\xff"), text("\xfe\xff"), 1)
	compares(t, text(strings.Repeat("a", 70)+"x"), text(strings.Repeat("a", 70)+"y"), -1)
}

func TestVa1CompareRows(t *testing.T) {
	up := func(col int) api.Sort { return api.Sort{Col: col} }
	down := func(col int) api.Sort { return api.Sort{Col: col, Down: true} }
	a, b := api.Row{number(1), text("x"), number(5)}, api.Row{number(1), text("x"), number(7), truth(0)}
	for _, x := range []struct {
		what string
		a, b api.Row
		by   []api.Sort
		want int
	}{
		{"by none", a, b, nil, 0},
		{"by an empty list", a, b, []api.Sort{}, 0},
		{"by one", a, b, []api.Sort{up(2)}, -1},
		{"by one, down", a, b, []api.Sort{down(2)}, 1},
		{"by one that is the same", a, b, []api.Sort{up(0)}, 0},
		{"by one that is the same, down", a, b, []api.Sort{down(0)}, 0},
		{"by several of which the first are the same", a, b, []api.Sort{up(0), down(1), up(2)}, -1},
		{"likewise, the last one down", a, b, []api.Sort{down(0), up(1), down(2)}, 1},
		{"the first that differs counts", a, b, []api.Sort{up(2), down(2), down(2)}, -1},
		{"down and up by one", a, b, []api.Sort{down(2), up(2)}, 1},
		{"twice by one that is the same", a, b, []api.Sort{up(1), up(1)}, 0},
		{"below 0", a, b, []api.Sort{up(-1), down(api.MinInt)}, 0},
		{"below 0, and then another", a, b, []api.Sort{up(-1), up(2)}, -1},
		{"at the end of one", a, b, []api.Sort{up(3)}, -1},
		{"at the end of one, down", a, b, []api.Sort{down(3)}, 1},
		{"above the end of one", a[:2], b, []api.Sort{up(3)}, -1},
		{"at the end of one, null in the other", a, append(b[:3:3], null), []api.Sort{up(3)}, 0},
		{"at the end of both", a, b[:3], []api.Sort{up(3)}, 0},
		{"above the end of both", a, b, []api.Sort{up(4), down(5), up(api.MaxInt)}, 0},
		{"above the end of both, and then another", a, b, []api.Sort{up(4), down(5), down(2)}, 1},
		{"an empty row", nil, b, []api.Sort{up(0)}, -1},
		{"both empty", nil, api.Row{}, []api.Sort{up(0)}, 0},
		{"kinds", api.Row{number(9)}, api.Row{text("a")}, []api.Sort{up(0)}, -1},
		{"values that may not be", api.Row{{Kind: 9, N: 1}}, api.Row{{Kind: 9, N: 1, S: "a"}}, []api.Sort{down(0)}, 1},
		{"one that stands ahead of null", api.Row{{Kind: -1}}, nil, []api.Sort{up(0)}, -1},
	} {
		t.Run(x.what, func(t *testing.T) { comparesRows(t, x.a, x.b, x.by, x.want) })
	}
}

// TestVa1CompareRowsLong holds many rows against a telling of their own, key by key.
func TestVa1CompareRowsLong(t *testing.T) {
	x := dice(5150)
	told := map[int]int{}
	for range 20000 {
		a, b, by := x.row(6), x.row(6), x.keys()
		if x.below(3) == 0 {
			b = append(slices.Clone(a[:x.below(len(a)+1)]), x.row(2)...)
		}
		want := 0
		for _, key := range slices.Backward(by) {
			left, right := append(append(api.Row{null, null}, a...), make(api.Row, 9)...), append(append(api.Row{null, null}, b...), make(api.Row, 9)...)
			c := wanted(left[key.Col+2], right[key.Col+2])
			if key.Down {
				c = -c
			}
			if c != 0 {
				want = c
			}
		}
		comparesRows(t, a, b, by, want)
		told[want]++
	}
	if len(told) != 3 {
		t.Error("not all were told:", told)
	}
}

func TestVa2Bytes(t *testing.T) {
	for _, x := range []struct {
		row  api.Row
		want string
	}{
		{nil, "\x00"},
		{api.Row{}, "\x00"},
		{api.Row{null}, "\x01\x00"},
		{api.Row{null, null}, "\x02\x00\x00"},
		{api.Row{number(api.MinInt)}, "\x01\x01\x00\x00\x00\x00\x00\x00\x00\x00"},
		{api.Row{number(-1)}, "\x01\x01\x7f\xff\xff\xff\xff\xff\xff\xff"},
		{api.Row{number(0)}, "\x01\x01\x80\x00\x00\x00\x00\x00\x00\x00"},
		{api.Row{number(1)}, "\x01\x01\x80\x00\x00\x00\x00\x00\x00\x01"},
		{api.Row{number(0x0102030405060708)}, "\x01\x01\x81\x02\x03\x04\x05\x06\x07\x08"},
		{api.Row{number(api.MaxInt)}, "\x01\x01\xff\xff\xff\xff\xff\xff\xff\xff"},
		{api.Row{text("")}, "\x01\x02\x00"},
		{api.Row{text("\x00\xff")}, "\x01\x02\x02\x00\xff"},
		{api.Row{text(strings.Repeat("x", 64))}, "\x01\x02\x40" + strings.Repeat("x", 64)},
		{api.Row{truth(0), truth(1)}, "\x02\x03\x00\x03\x01"},
		{api.Row{truth(1), text("ab"), number(256), null}, "\x04\x03\x01\x02\x02ab\x01\x80\x00\x00\x00\x00\x00\x01\x00\x00"},
		{slices.Repeat(api.Row{truth(1)}, 255), "\xff" + strings.Repeat("\x03\x01", 255)},
	} {
		puts(t, x.row, x.want, api.OK)
		takes(t, x.want, x.row, api.OK)
	}
}

func TestVa2Put(t *testing.T) {
	for _, n := range []int{256, 257, 511, 512, 1 << 16} {
		puts(t, make(api.Row, n), "", api.ErrArg)
	}
	keeps(t, make(api.Row, 255))
	keeps(t, slices.Repeat(api.Row{text(strings.Repeat("'", 64))}, 255))
	for _, bad := range mayNotBe() {
		puts(t, api.Row{bad}, "", api.ErrArg)
		puts(t, append(api.Row{bad}, mayBe()...), "", api.ErrArg)
		puts(t, append(mayBe(), bad), "", api.ErrArg)
		puts(t, append(make(api.Row, 254), bad), "", api.ErrArg)
	}
}

// TestVa2IntsRise: the bytes of Ints stand in the order of their numbers.
func TestVa2IntsRise(t *testing.T) {
	numbers := []int{api.MinInt, api.MinInt + 1, -2, -1, 0, 1, 2, api.MaxInt - 1, api.MaxInt}
	for k := range 63 {
		for _, n := range []int{1<<k - 1, 1 << k, 1<<k + 1} {
			numbers = append(numbers, n, -n)
		}
	}
	slices.Sort(numbers)
	last := ""
	for _, n := range slices.Compact(numbers) {
		s, e := value.Put(api.Row{number(n)})
		if e != api.OK || s <= last {
			t.Errorf("the bytes of %d are %q, error %d, behind %q", n, s, e, last)
		}
		last = s
	}
}

func TestVa2Take(t *testing.T) {
	whole := rawRow(api.Row{number(-5), text("it's"), null, truth(1), number(77), text("")})
	for cut := range len(whole) {
		takes(t, whole[:cut], nil, api.ErrForm)
	}
	for _, more := range []string{"\x00", "x", "\x00\x00", whole} {
		takes(t, whole+more, nil, api.ErrForm)
		takes(t, "\x00"+more, nil, api.ErrForm)
	}
	for count := range 256 {
		if count != 6 {
			takes(t, string([]byte{byte(count)})+whole[1:], nil, api.ErrForm)
		}
	}
	for kind := 4; kind < 256; kind++ {
		takes(t, "\x01"+string([]byte{byte(kind)}), nil, api.ErrForm)
		takes(t, "\x02\x00"+string([]byte{byte(kind)}), nil, api.ErrForm)
		takes(t, "\x02"+string([]byte{byte(kind)})+"\x00", nil, api.ErrForm)
	}
	for size := 65; size < 256; size++ {
		takes(t, "\x01\x02"+string([]byte{byte(size)})+strings.Repeat("x", size), nil, api.ErrForm)
	}
	for n := 2; n < 256; n++ {
		takes(t, "\x01\x03"+string([]byte{byte(n)}), nil, api.ErrForm)
	}
	for _, s := range []string{"", "\x01", "\x01\x01", "\x01\x02", "\x01\x03", "\x01\x02\x01", "\x02\x02\x02ab", "\xff", "\xff" + strings.Repeat("\x00", 254), "\xff" + strings.Repeat("\x00", 256)} {
		takes(t, s, nil, api.ErrForm)
	}
	takes(t, "\xff"+strings.Repeat("\x00", 255), make(api.Row, 255), api.OK)
}

func TestVa3Hash(t *testing.T) {
	for _, v := range mayBe() {
		if got, want := value.Hash(v), int(crc32.ChecksumIEEE([]byte(rawValue(v)))); got != want {
			t.Errorf("Hash(%v): %d, want %d", v, got, want)
		}
	}
	for _, v := range mayNotBe() {
		if got := value.Hash(v); got != 0 {
			t.Errorf("Hash(%v): %d, want 0", v, got)
		}
	}
}

func TestVa3Show(t *testing.T) {
	shows(t, null, "null")
	shows(t, truth(0), "false")
	shows(t, truth(1), "true")
	for _, v := range mayBe() {
		if v.Kind == api.Int {
			shows(t, v, strconv.Itoa(v.N))
		}
	}
	shows(t, number(api.MinInt), "-9223372036854775808")
	for s, want := range map[string]string{
		"": "''", "a": "'a'", "'": "''''", "''": "''''''", "'a": "'''a'", "a'": "'a'''", "'a''b'": "'''a''''b'''", "null": "'null'", "\x00\xff": "'\x00\xff'", "\"": "'\"'", "é\n": "'é\n'",
		strings.Repeat("'", 64): strings.Repeat("'", 130), strings.Repeat("z", 64): "'" + strings.Repeat("z", 64) + "'",
	} {
		shows(t, text(s), want)
	}
	for _, v := range mayNotBe() {
		shows(t, v, "null")
	}
}

// TestVa4Order: of any three values just one stands ahead of the other, the same are the same, and what is ahead of what is ahead is ahead.
func TestVa4Order(t *testing.T) {
	all := append(mayBe(), mayNotBe()...)
	for _, a := range all {
		for _, b := range all {
			c := value.Compare(a, b)
			if c < -1 || c > 1 || c != -value.Compare(b, a) || (c == 0) != (a == b) {
				t.Errorf("Compare of %v and %v: %d, %d", a, b, c, value.Compare(b, a))
			}
			for _, d := range all {
				if c <= 0 && value.Compare(b, d) <= 0 && value.Compare(a, d) > 0 {
					t.Errorf("%v, %v and %v stand in no order", a, b, d)
				}
			}
		}
	}
}

// TestVa4Kept: what is put is taken as it was, and what is taken is put as it was.
func TestVa4Kept(t *testing.T) {
	x := dice(404)
	for range 4000 {
		keeps(t, x.row(12))
	}
	for n := range 256 {
		r := make(api.Row, n)
		for k := range r {
			r[k] = x.value()
		}
		keeps(t, r)
	}
}

// TestVa4Bent: bytes that are bent at one place are those of another row, or of none.
func TestVa4Bent(t *testing.T) {
	x := dice(9090)
	told := map[api.Errno]int{}
	for range 20000 {
		s := []byte(rawRow(x.row(6)))
		s[x.below(len(s))] = byte(x.below(9)) << x.below(6)
		r, e := value.Take(string(s))
		told[e]++
		if e == api.OK {
			puts(t, r, string(s), api.OK)
		} else if e != api.ErrForm || len(r) != 0 {
			t.Errorf("Take(%q): %v, error %d", s, r, e)
		}
	}
	if len(told) != 2 {
		t.Error("not both were told:", fmt.Sprint(told))
	}
}
