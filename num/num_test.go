package num_test

import (
	"math/big"
	"slices"
	"strconv"
	"strings"
	"testing"

	"quayside/api"
	"quayside/num"
)

// edges are numbers at which 64 bits, their halves, signs and digits turn.
func edges() []int {
	l := []int{0, 1, 2, 3, 7, 9, 10, 11, 99, 100, 1000003, 3037000499, 3037000500, 4294967295, 4294967296, 999999999999999999, 1000000000000000000, 4611686018427387903, 4611686018427387904, api.MaxInt - 1, api.MaxInt}
	for _, n := range slices.Clone(l) {
		l = append(l, -n)
	}
	return append(l, api.MinInt, api.MinInt+1, api.MinInt+2)
}

// ordinary are numbers of all sizes, the same ones each time.
func ordinary(count int) []int {
	var l []int
	x := uint64(88172645463325252)
	for k := range count {
		x ^= x << 13
		x ^= x >> 7
		x ^= x << 17
		l = append(l, int(x)>>(k%64))
	}
	return l
}

func pairs() [][2]int {
	var l [][2]int
	for _, a := range edges() {
		for _, b := range edges() {
			l = append(l, [2]int{a, b})
		}
	}
	o := ordinary(4000)
	for k := range len(o) - 1 {
		l = append(l, [2]int{o[k], o[k+1]}, [2]int{o[k], o[(k*7+3)%len(o)]})
	}
	return l
}

func wide(n int) *big.Int { return big.NewInt(int64(n)) }

// bounded is what must be answered for a number that is meant without end.
func bounded(n *big.Int) (int, api.Errno) {
	if !n.IsInt64() {
		return 0, api.ErrOver
	}
	return int(n.Int64()), api.OK
}

func expect(t *testing.T, what string, n int, e api.Errno, want int, err api.Errno) {
	t.Helper()
	if n != want || e != err {
		t.Errorf("%s: %d, error %d; want %d, error %d", what, n, e, want, err)
	}
}

// TestNu1 holds each of the six against numbers without end.
func TestNu1(t *testing.T) {
	for _, p := range pairs() {
		a, b := p[0], p[1]
		of := "(" + strconv.Itoa(a) + ", " + strconv.Itoa(b) + ")"
		n, e := num.Add(a, b)
		want, err := bounded(new(big.Int).Add(wide(a), wide(b)))
		expect(t, "Add"+of, n, e, want, err)
		n, e = num.Sub(a, b)
		want, err = bounded(new(big.Int).Sub(wide(a), wide(b)))
		expect(t, "Sub"+of, n, e, want, err)
		n, e = num.Mul(a, b)
		want, err = bounded(new(big.Int).Mul(wide(a), wide(b)))
		expect(t, "Mul"+of, n, e, want, err)
		n, e = num.Neg(a)
		want, err = bounded(new(big.Int).Neg(wide(a)))
		expect(t, "Neg"+of, n, e, want, err)
		quotient, left := 0, 0
		err, errLeft := api.ErrZero, api.ErrZero
		if b != 0 {
			q, r := new(big.Int).QuoRem(wide(a), wide(b), new(big.Int))
			quotient, err = bounded(q)
			left, errLeft = bounded(r)
		}
		n, e = num.Div(a, b)
		expect(t, "Div"+of, n, e, quotient, err)
		n, e = num.Mod(a, b)
		expect(t, "Mod"+of, n, e, left, errLeft)
	}
}

// TestNu1Edges writes out the edges that the chapter names.
func TestNu1Edges(t *testing.T) {
	for _, x := range []struct {
		what string
		call func(a, b int) (int, api.Errno)
		a, b int
		want int
		err  api.Errno
	}{
		{"Add", num.Add, 5, 3, 8, api.OK},
		{"Add", num.Add, api.MaxInt, 1, 0, api.ErrOver},
		{"Add", num.Add, api.MaxInt, 0, api.MaxInt, api.OK},
		{"Add", num.Add, api.MaxInt, api.MinInt, -1, api.OK},
		{"Add", num.Add, api.MinInt, -1, 0, api.ErrOver},
		{"Add", num.Add, api.MinInt, api.MinInt, 0, api.ErrOver},
		{"Sub", num.Sub, 5, 8, -3, api.OK},
		{"Sub", num.Sub, api.MinInt, 1, 0, api.ErrOver},
		{"Sub", num.Sub, 0, api.MinInt, 0, api.ErrOver},
		{"Sub", num.Sub, -1, api.MinInt, api.MaxInt, api.OK},
		{"Sub", num.Sub, api.MinInt, api.MinInt, 0, api.OK},
		{"Mul", num.Mul, -6, 7, -42, api.OK},
		{"Mul", num.Mul, 1 << 32, 1 << 31, 0, api.ErrOver},
		{"Mul", num.Mul, 1 << 32, 1 << 32, 0, api.ErrOver},
		{"Mul", num.Mul, -1 << 32, 1 << 31, api.MinInt, api.OK},
		{"Mul", num.Mul, api.MinInt, -1, 0, api.ErrOver},
		{"Mul", num.Mul, -1, api.MinInt, 0, api.ErrOver},
		{"Mul", num.Mul, api.MinInt, 0, 0, api.OK},
		{"Mul", num.Mul, 0, api.MinInt, 0, api.OK},
		{"Div", num.Div, 7, 3, 2, api.OK},
		{"Div", num.Div, -7, 3, -2, api.OK},
		{"Div", num.Div, 7, -3, -2, api.OK},
		{"Div", num.Div, api.MinInt, 1, api.MinInt, api.OK},
		{"Div", num.Div, api.MinInt, -1, 0, api.ErrOver},
		{"Div", num.Div, api.MaxInt, -1, -api.MaxInt, api.OK},
		{"Div", num.Div, 1, 0, 0, api.ErrZero},
		{"Div", num.Div, 0, 0, 0, api.ErrZero},
		{"Div", num.Div, api.MinInt, 0, 0, api.ErrZero},
		{"Mod", num.Mod, 7, 3, 1, api.OK},
		{"Mod", num.Mod, -7, 3, -1, api.OK},
		{"Mod", num.Mod, 7, -3, 1, api.OK},
		{"Mod", num.Mod, api.MinInt, -1, 0, api.OK},
		{"Mod", num.Mod, api.MinInt, 0, 0, api.ErrZero},
	} {
		n, e := x.call(x.a, x.b)
		expect(t, x.what+"("+strconv.Itoa(x.a)+", "+strconv.Itoa(x.b)+")", n, e, x.want, x.err)
	}
	n, e := num.Neg(api.MinInt)
	expect(t, "Neg of the least", n, e, 0, api.ErrOver)
	n, e = num.Neg(api.MaxInt)
	expect(t, "Neg of the greatest", n, e, -api.MaxInt, api.OK)
}

func TestNu2(t *testing.T) {
	for _, x := range []struct {
		l    []int
		want int
		err  api.Errno
	}{
		{nil, 0, api.OK},
		{[]int{}, 0, api.OK},
		{[]int{-4}, -4, api.OK},
		{[]int{1, 2, 3}, 6, api.OK},
		{[]int{api.MaxInt, 1, -1}, api.MaxInt, api.OK},
		{[]int{api.MinInt, -1, 1}, api.MinInt, api.OK},
		{[]int{api.MaxInt, api.MaxInt, api.MinInt, 1}, api.MaxInt, api.OK},
		{[]int{api.MinInt, api.MinInt, api.MaxInt, api.MaxInt, 2}, 0, api.OK},
		{[]int{api.MaxInt, 1}, 0, api.ErrOver},
		{[]int{api.MinInt, -1}, 0, api.ErrOver},
		{[]int{api.MaxInt, api.MaxInt, 2}, 0, api.ErrOver},
		{[]int{api.MinInt, api.MinInt}, 0, api.ErrOver},
	} {
		n, e := num.Sum(x.l)
		expect(t, "Sum", n, e, x.want, x.err)
	}
}

// TestNu2Order sums lists forwards, backwards and sorted, against numbers without end.
func TestNu2Order(t *testing.T) {
	all := append(edges(), ordinary(400)...)
	for from := range len(all) {
		for _, count := range []int{2, 3, 5, 40} {
			l := slices.Clone(all[from:min(from+count, len(all))])
			total := new(big.Int)
			for _, n := range l {
				total.Add(total, wide(n))
			}
			want, err := bounded(total)
			n, e := num.Sum(l)
			expect(t, "Sum", n, e, want, err)
			slices.Reverse(l)
			n, e = num.Sum(l)
			expect(t, "Sum backwards", n, e, want, err)
			slices.Sort(l)
			n, e = num.Sum(l)
			expect(t, "Sum sorted", n, e, want, err)
		}
	}
}

// TestNu2Turns goes far beyond the bounds, on both sides, and comes back.
func TestNu2Turns(t *testing.T) {
	var l []int
	for range 1000 {
		l = append(l, api.MaxInt)
	}
	n, e := num.Sum(l)
	expect(t, "a thousand times the greatest", n, e, 0, api.ErrOver)
	for range 2000 {
		l = append(l, -api.MaxInt)
	}
	n, e = num.Sum(l)
	expect(t, "below by a thousand times the greatest", n, e, 0, api.ErrOver)
	for range 1000 {
		l = append(l, api.MaxInt)
	}
	n, e = num.Sum(append(l, 17))
	expect(t, "back again", n, e, 17, api.OK)
}

func TestNu3Text(t *testing.T) {
	for _, x := range []struct {
		n    int
		want string
	}{
		{0, "0"},
		{7, "7"},
		{-7, "-7"},
		{10, "10"},
		{-100, "-100"},
		{1000000000000000000, "1000000000000000000"},
		{api.MaxInt, "9223372036854775807"},
		{api.MinInt, "-9223372036854775808"},
	} {
		if s := num.Text(x.n); s != x.want {
			t.Errorf("Text(%d): %q; want %q", x.n, s, x.want)
		}
	}
	for _, n := range append(edges(), ordinary(4000)...) {
		if s := num.Text(n); s != strconv.Itoa(n) {
			t.Errorf("Text(%d): %q", n, s)
		}
	}
}

func TestNu3Read(t *testing.T) {
	for _, x := range []struct {
		s    string
		want int
	}{
		{"0", 0},
		{"7", 7},
		{"-7", -7},
		{"10", 10},
		{"-1000", -1000},
		{"9223372036854775807", api.MaxInt},
		{"-9223372036854775807", -api.MaxInt},
		{"-9223372036854775808", api.MinInt},
	} {
		n, e := num.Read(x.s)
		expect(t, "Read("+x.s+")", n, e, x.want, api.OK)
	}
}

func TestNu3NoNumber(t *testing.T) {
	for _, s := range []string{
		"", "-", "--", "-0", "-00", "00", "007", "-007", "+1", "+", "+0", "--1", "-+1", "1-", "1-2",
		" ", " 1", "1 ", "- 1", "\n1", "1\n", "1\x00", "\x001", "1.0", "1e3", "0x10", "0b1", "1_000", "a", "12a", "a12", "1/", "1:",
		"\u0661", "\uff11", "1\uff11", "\u22121", "\xff", "1\xff", "-\xb1",
		"9223372036854775808x", "x9223372036854775808", "-99999999999999999999-", "00000000000000000000000", "09223372036854775808",
		strings.Repeat("9", 1000) + " ", strings.Repeat("0", 1000),
	} {
		n, e := num.Read(s)
		expect(t, "Read("+strconv.Quote(s)+")", n, e, 0, api.ErrArg)
	}
}

func TestNu3Beyond(t *testing.T) {
	for _, s := range []string{
		"9223372036854775808", "-9223372036854775809", "9223372036854775810", "9999999999999999999", "-9999999999999999999",
		"10000000000000000000", "18446744073709551615", "18446744073709551616", "18446744073709551617", "-18446744073709551616", "-18446744073709551617", "36893488147419103233",
		"1" + strings.Repeat("0", 19), "1" + strings.Repeat("0", 64), "-" + strings.Repeat("1", 5000),
	} {
		n, e := num.Read(s)
		expect(t, "Read("+s+")", n, e, 0, api.ErrOver)
	}
}

// TestNu3Short reads every text of at most three signs, and holds each against the texts that are put.
func TestNu3Short(t *testing.T) {
	put := map[string]int{}
	for n := range 1000 {
		put[num.Text(n)] = n
		put[num.Text(-n)] = -n
	}
	texts := []string{""}
	for range 3 {
		for _, s := range slices.Clone(texts) {
			for _, c := range "-+0123789 a\xff" {
				texts = append(texts, s+string(c))
			}
		}
	}
	for _, s := range texts {
		n, e := num.Read(s)
		want, is := put[s]
		if is {
			expect(t, "Read("+s+")", n, e, want, api.OK)
		} else {
			expect(t, "Read("+strconv.Quote(s)+")", n, e, 0, api.ErrArg)
		}
	}
}

// TestNu4Sub: a difference added is what it was taken from.
func TestNu4Sub(t *testing.T) {
	for _, p := range pairs() {
		d, e := num.Sub(p[0], p[1])
		if e != api.OK {
			continue
		}
		n, e := num.Add(d, p[1])
		expect(t, "difference added", n, e, p[0], api.OK)
	}
}

// TestNu4Div: a quotient times b and what it leaves are a.
func TestNu4Div(t *testing.T) {
	for _, p := range pairs() {
		q, e := num.Div(p[0], p[1])
		if e != api.OK {
			continue
		}
		left, e := num.Mod(p[0], p[1])
		expect(t, "Mod beside a quotient", 0, e, 0, api.OK)
		m, e := num.Mul(q, p[1])
		expect(t, "quotient times b", 0, e, 0, api.OK)
		n, e := num.Add(m, left)
		expect(t, "quotient times b and what it leaves", n, e, p[0], api.OK)
	}
}

// TestNu4Text: a text that was put is read as its number.
func TestNu4Text(t *testing.T) {
	for _, n := range append(edges(), ordinary(4000)...) {
		got, e := num.Read(num.Text(n))
		expect(t, "Read(Text("+strconv.Itoa(n)+"))", got, e, n, api.OK)
	}
}
