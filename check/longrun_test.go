package check_test

import (
	"testing"

	"quayside/api"
	"quayside/check"
)

// TestCk1Ck2LongRun: queries of all kinds, right and wrong ones, are told as by a plain reading of the chapter.
func TestCk1Ck2LongRun(t *testing.T) {
	x := dice(19)
	seen := map[api.Errno]int{}
	for n := range 20000 {
		m := &maker{dice: &x, left: 60, odd: []int{30, 200, 100000}[n%3]}
		var kinds []int
		for range 1 + x.below(3) {
			kinds = append(kinds, 1+x.below(3))
		}
		q := m.query(kinds, 2+x.below(4))
		want, bad := plainQuery(q, some())
		if bad == nil {
			bad = &faulty{}
		}
		got, at, e := check.Query(q, some())
		if at != bad.at || e != bad.e || shown(got) != shown(want) {
			t.Fatalf("%d: %.2000s:\nerror %d at %d; want %d at %d\n%.2000s\nwant\n%.2000s", n, shown(q), e, at, bad.e, bad.at, shown(got), shown(want))
		}
		seen[e]++
	}
	for _, e := range []api.Errno{api.OK, api.ErrName, api.ErrType, api.ErrGroup, api.ErrWidth} {
		if seen[e] < 100 {
			t.Errorf("the error %d only %d times", e, seen[e])
		}
	}
}
