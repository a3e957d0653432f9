package hash

import (
	"slices"
	"testing"

	"quayside/api"
	"quayside/value"
)

// settled tells whether each value stands once, in its bucket, with numbers that rise, and all numbers are counted.
func settled(x Index) bool {
	numbers, seen := 0, make(map[api.Value]int)
	for i := range x.Buckets() {
		for _, e := range x.blocks.list[i/bucketsOfBlock][i%bucketsOfBlock] {
			if value.Hash(e.value)%x.Buckets() != i || seen[e.value] > 0 || len(e.numbers) == 0 {
				return false
			}
			if !slices.IsSorted(e.numbers) || len(slices.Compact(slices.Clone(e.numbers))) != len(e.numbers) {
				return false
			}
			seen[e.value]++
			numbers += len(e.numbers)
		}
	}
	return numbers == x.Len()
}

// TestHa2Settled: a value's bucket is its Hash modulo the buckets, which no call of an index can tell.
func TestHa2Settled(t *testing.T) {
	var x Index
	seed := uint64(2463534242)
	for step := range 6000 {
		seed ^= seed << 13
		seed ^= seed >> 7
		seed ^= seed << 17
		v, n := api.Value{Kind: api.Int, N: int(seed >> 8 % 300)}, int(seed>>30%4)
		if seed>>20%3 == 0 {
			v = api.Value{Kind: api.Text, S: string([]byte{byte(v.N), byte(v.N >> 8)})}
		}
		// More come than go, then more go than come.
		if seed>>40%10 < uint64(2+6*(step/2000%2)) {
			x = x.Without(v, n)
		} else {
			x = x.With(v, n)
		}
		if !settled(x) {
			t.Fatalf("step %d, %d numbers in %d buckets: not settled", step, x.Len(), x.Buckets())
		}
	}
	if x.Buckets() < 128 {
		t.Errorf("only %d buckets were tried", x.Buckets())
	}
}
