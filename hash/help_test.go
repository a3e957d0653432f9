package hash_test

import (
	"encoding/binary"
	"fmt"
	"hash/crc32"
	"slices"
	"strings"
	"testing"

	"quayside/api"
	"quayside/hash"
	"quayside/value"
)

var null = api.Value{}

func number(n int) api.Value { return api.Value{Kind: api.Int, N: n} }

func text(s string) api.Value { return api.Value{Kind: api.Text, S: s} }

func truth(n int) api.Value { return api.Value{Kind: api.Bool, N: n} }

// mayBe are values of each kind that may be, many of them alike but for their kind.
func mayBe() []api.Value {
	return []api.Value{
		null, truth(0), truth(1),
		number(0), number(1), number(-1), number(2), number(7), number(8), number(256), number(api.MinInt), number(api.MaxInt),
		text(""), text("0"), text("1"), text("a"), text("A"), text("a "), text("null"), text("\x00"), text("\x00\x00"), text("\xff"), text(strings.Repeat("a", 63)), text(strings.Repeat("a", 64)),
	}
}

// mayNotBe are values of which each has one thing too many.
func mayNotBe() []api.Value {
	return []api.Value{
		{Kind: api.Null, N: 1}, {Kind: api.Null, S: "a"},
		{Kind: api.Int, S: "a"}, {Kind: api.Int, N: 1, S: "1"},
		{Kind: api.Text, N: 1}, {Kind: api.Text, N: -1, S: "a"}, text(strings.Repeat("a", 65)), text(strings.Repeat("a", 256+64)),
		truth(-1), truth(2), {Kind: api.Bool, S: "a"}, {Kind: api.Bool, N: 1, S: "true"},
		{Kind: -1}, {Kind: 4}, {Kind: 9, N: 1, S: "a"}, {Kind: api.MinInt}, {Kind: api.MaxInt},
	}
}

// oddNumbers are some that can be by a value, in no order.
func oddNumbers() []int {
	return []int{0, -1, 1, api.MaxInt, api.MinInt, 42, -42, api.MaxInt - 1, api.MinInt + 1, 1 << 32, -1 << 32, 7}
}

// dice are numbers that look like chance, the same ones in each run.
type dice uint64

func (x *dice) below(n int) int {
	*x ^= *x << 13
	*x ^= *x >> 7
	*x ^= *x << 17
	return int(uint64(*x) >> 1 % uint64(n))
}

type pair struct {
	v api.Value
	n int
}

// model is what an index has, as a plain list of pairs, and the greatest Len that it or one of which it came had.
type model struct {
	pairs []pair
	most  int
}

func (m model) with(v api.Value, n int) model {
	if slices.Contains(mayNotBe(), v) || slices.Contains(m.pairs, pair{v, n}) {
		return m
	}
	m.pairs = append(slices.Clone(m.pairs), pair{v, n})
	m.most = max(m.most, len(m.pairs))
	return m
}

func (m model) without(v api.Value, n int) model {
	m.pairs = slices.DeleteFunc(slices.Clone(m.pairs), func(p pair) bool { return p == pair{v, n} })
	return m
}

func (m model) find(v api.Value) []int {
	var out []int
	for _, p := range m.pairs {
		if p.v == v {
			out = append(out, p.n)
		}
	}
	slices.Sort(out)
	return out
}

// buckets are the least of 8, 16, 32 and so on of which four times as many are at least the greatest Len.
func (m model) buckets() int {
	if m.most == 0 {
		return 0
	}
	n := 8
	for 4*n < m.most {
		n *= 2
	}
	return n
}

// sized: Len and Buckets are the model's.
func sized(t *testing.T, what string, x hash.Index, m model) {
	t.Helper()
	if x.Len() != len(m.pairs) || x.Buckets() != m.buckets() {
		t.Fatalf("%s: Len %d, Buckets %d, want %d and %d (of %d at most)", what, x.Len(), x.Buckets(), len(m.pairs), m.buckets(), m.most)
	}
}

func finds(t *testing.T, what string, x hash.Index, v api.Value, want []int) {
	t.Helper()
	if got := x.Find(v); !slices.Equal(got, want) {
		t.Fatalf("%s: Find(%v): %v, want %v", what, v, got, want)
	}
}

// has: the index has what the model has, and nothing by other values.
func has(t *testing.T, what string, x hash.Index, m model) {
	t.Helper()
	sized(t, what, x, m)
	for _, v := range slices.Concat(mayBe(), mayNotBe()) {
		finds(t, what, x, v, m.find(v))
	}
	all := make(map[api.Value][]int)
	for _, p := range m.pairs {
		all[p.v] = append(all[p.v], p.n)
	}
	for v, numbers := range all {
		slices.Sort(numbers)
		finds(t, what, x, v, numbers)
	}
}

// made is the index and the model of pairs that come one by one.
func made(pairs ...pair) (hash.Index, model) {
	var x hash.Index
	var m model
	for _, p := range pairs {
		x, m = x.With(p.v, p.n), m.with(p.v, p.n)
	}
	return x, m
}

// counted are as many pairs, of as many values.
func counted(pairs, values int) []pair {
	var out []pair
	for k := range pairs {
		out = append(out, pair{number(k % values), k})
	}
	return out
}

// mixed are pairs in another order, that looks like chance.
func mixed(pairs []pair, seed dice) []pair {
	out := slices.Clone(pairs)
	for k := len(out) - 1; k > 0; k-- {
		j := seed.below(k + 1)
		out[k], out[j] = out[j], out[k]
	}
	return out
}

// together are values whose Hash is the same one modulo as many buckets: of each kind, if there is one.
func together(buckets, bucket, each int) []api.Value {
	var out []api.Value
	take := func(v api.Value) bool {
		if value.Hash(v)%buckets != bucket {
			return false
		}
		out = append(out, v)
		return true
	}
	take(null)
	take(truth(0))
	take(truth(1))
	for k, numbers := 0, 0; numbers < each; k++ {
		if take(number(k - 20)) {
			numbers++
		}
	}
	for k, texts := 0, 0; texts < each; k++ {
		if take(text(fmt.Sprint("t", k))) {
			texts++
		}
	}
	return out
}

// sealed are bytes with four more behind them, by which their sum is a given one: the register is run backwards from that sum.
func sealed(b []byte, sum int) []byte {
	r := ^uint32(sum)
	for range 32 {
		if r>>31 == 1 {
			r = (r^crc32.IEEE)<<1 | 1
		} else {
			r <<= 1
		}
	}
	return binary.LittleEndian.AppendUint32(b, r^^crc32.ChecksumIEEE(b))
}

// twins are numbers and texts, that many of each, all with the Hash of one value.
func twins(t *testing.T, of api.Value, each int) []api.Value {
	t.Helper()
	sum := value.Hash(of)
	out := []api.Value{of}
	for k := range each {
		n := sealed(binary.BigEndian.AppendUint32([]byte{api.Int}, uint32(k)<<20), sum)
		s := sealed([]byte{api.Text, 6, 'a' + byte(k/26), 'a' + byte(k%26)}, sum)
		out = append(out, number(int(binary.BigEndian.Uint64(n[1:])^1<<63)), text(string(s[2:])))
	}
	for _, v := range out {
		if value.Hash(v) != sum {
			t.Fatalf("the Hash of %v is %x, should be made to be %x", v, value.Hash(v), sum)
		}
	}
	return out
}
