package num_test

import (
	"slices"
	"strings"
	"testing"

	"quayside/api"
	"quayside/num"
)

type answer struct {
	n int
	s string
	e api.Errno
}

// callAll is what every call of the layer answers at two numbers, a list of both, and a text.
func callAll(a, b int, s string) []answer {
	var l []answer
	for _, call := range []func(a, b int) (int, api.Errno){num.Add, num.Sub, num.Mul, num.Div, num.Mod} {
		n, e := call(a, b)
		l = append(l, answer{n: n, e: e})
	}
	neg, errNeg := num.Neg(a)
	sum, errSum := num.Sum([]int{a, b, a})
	read, errRead := num.Read(s)
	return append(l, answer{n: neg, e: errNeg}, answer{n: sum, e: errSum}, answer{n: read, e: errRead}, answer{s: num.Text(a)})
}

// oddTexts are what no caller should hand in, and what one may.
func oddTexts() []string {
	return []string{"", "-", "0", "-0", "\x00", "\xff\xfe", "12", "-9223372036854775809", strings.Repeat("-", 70), strings.Repeat("7", 1<<16)}
}

// TestR1: every call ends without a panic, at the edges and at odd texts.
func TestR1(t *testing.T) {
	defer func() {
		if r := recover(); r != nil {
			t.Error("panic:", r)
		}
	}()
	for _, s := range oddTexts() {
		for _, p := range pairs()[:2000] {
			callAll(p[0], p[1], s[:min(len(s), 30)])
		}
		callAll(0, 0, s)
	}
	num.Sum(nil)
}

// TestR2: beside an error the number is 0.
func TestR2(t *testing.T) {
	errors := 0
	for _, s := range oddTexts() {
		for _, a := range edges() {
			for _, b := range edges() {
				for k, x := range callAll(a, b, s[:min(len(s), 30)]) {
					if x.e == api.OK {
						continue
					}
					errors++
					if x.n != 0 {
						t.Errorf("call %d at %d, %d, %q: %d beside error %d", k, a, b, s, x.n, x.e)
					}
				}
			}
		}
	}
	if errors == 0 {
		t.Error("no call was refused")
	}
}

// TestR3: a list is not changed, nor what lies in the room behind it, which counts for nothing; nil is the empty list.
func TestR3(t *testing.T) {
	room := []int{5, 6, api.MaxInt, api.MaxInt, -9}
	was := slices.Clone(room)
	n, e := num.Sum(room[:2])
	expect(t, "Sum with room behind it", n, e, 11, api.OK)
	n, e = num.Sum(room[1:1])
	expect(t, "Sum of none with room behind it", n, e, 0, api.OK)
	n, e = num.Sum(room)
	expect(t, "Sum of all", n, e, 0, api.ErrOver)
	if !slices.Equal(room, was) {
		t.Errorf("the list is %v now, was %v", room, was)
	}
	none, errNone := num.Sum(nil)
	empty, errEmpty := num.Sum([]int{})
	if none != empty || errNone != errEmpty {
		t.Error("nil and the empty list differ")
	}
}

// TestR4: what is asked again is answered the same, whatever was asked between.
func TestR4(t *testing.T) {
	texts := oddTexts()
	var first [][]answer
	for k, p := range pairs()[:1000] {
		first = append(first, callAll(p[0], p[1], texts[k%len(texts)]))
	}
	for k, p := range slices.Backward(pairs()[:1000]) {
		if again := callAll(p[0], p[1], texts[k%len(texts)]); !slices.Equal(again, first[k]) {
			t.Errorf("at %v: %v, then %v", p, first[k], again)
		}
	}
}
