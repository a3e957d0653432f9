package crc_test

import (
	"slices"
	"strings"
	"testing"

	"quayside/crc"
)

type answer struct {
	sum, more, taken int
	put              string
	same, again      bool
}

// callAll is what every call of the layer answers at a sum and two texts.
func callAll(sum int, a, b string) answer {
	return answer{crc.Sum(a), crc.More(sum, a), crc.Take(a), crc.Put(sum), crc.Same(a, b), crc.Same(b, a)}
}

// TestR1: every call ends without a panic, at odd sums and texts, short and long; what it answers is a sum, or that there is none.
func TestR1(t *testing.T) {
	defer func() {
		if r := recover(); r != nil {
			t.Error("panic:", r)
		}
	}()
	for _, a := range append(texts(), strings.Repeat("\xff\x00", 1<<18)) {
		got := callAll(-1, a, a+"\x00")
		if got.sum < 0 || got.sum > lowest32 || got.more < 0 || got.more > lowest32 || got.taken < -1 || got.taken > lowest32 || len(got.put) != 4 {
			t.Errorf("at a text of %d bytes: %v", len(a), got)
		}
	}
	for _, sum := range sums() {
		callAll(sum, "", "")
		callAll(sum, "\xff", "\x00")
	}
}

// TestR2: a text that is too short to be taken changes nothing for those behind it.
func TestR2(t *testing.T) {
	for _, s := range texts() {
		was := callAll(5, s, "\x00\xff")
		for _, short := range []string{"", "\xff", "\xff\xff", "\xff\xff\xff"} {
			expect(t, "Take of a short text", crc.Take(short), -1)
		}
		if again := callAll(5, s, "\x00\xff"); again != was {
			t.Errorf("at %q: %v, then %v", s, was, again)
		}
	}
}

// TestR3: a piece of a greater text is taken alone, and what stands beside it counts for nothing.
func TestR3(t *testing.T) {
	for _, s := range texts() {
		for cut := range min(len(s), 9) {
			whole := "before" + s + "\xff\xff\xff\xff\xff\xff"
			piece := whole[len("before"):][:cut]
			alone := strings.Clone(s[:cut])
			if callAll(7, piece, alone) != callAll(7, alone, piece) {
				t.Errorf("%q differs from itself within %q", alone, whole)
			}
		}
	}
}

// TestR4: what is asked again is answered the same, whatever was asked between.
func TestR4(t *testing.T) {
	l, numbers := texts(), sums()
	at := func(k int) answer { return callAll(numbers[k%len(numbers)], l[k], l[(k*7+3)%len(l)]) }
	var first []answer
	for k := range l {
		first = append(first, at(k))
	}
	for k, was := range slices.Backward(first) {
		if again := at(k); again != was {
			t.Errorf("at %q: %v, then %v", l[k], was, again)
		}
	}
}
