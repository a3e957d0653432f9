// Package num is layer 1: see shared/doc/01-num.md.
package num

import (
	"quayside/api"
	"strings"
)

// maxDigits is how many digits the greatest number has, and the least one.
const maxDigits = 19

// Add is a sum.
func Add(a, b int) (int, api.Errno) {
	return unturned(turned(a, b))
}

// Sub is a difference.
func Sub(a, b int) (int, api.Errno) {
	d := a - b
	if (d < a) != (b > 0) {
		return 0, api.ErrOver
	}
	return d, api.OK
}

// Mul is a product.
func Mul(a, b int) (int, api.Errno) {
	if b == 0 {
		return 0, api.OK
	}
	// The least number wraps to itself when it is divided by -1, so dividing the product would not tell.
	if b == -1 {
		return Neg(a)
	}
	p := a * b
	if p/b != a {
		return 0, api.ErrOver
	}
	return p, api.OK
}

// Neg is a number's other sign.
func Neg(a int) (int, api.Errno) {
	if a == api.MinInt {
		return 0, api.ErrOver
	}
	return -a, api.OK
}

// Div is a quotient, cut towards nought.
func Div(a, b int) (int, api.Errno) {
	if b == 0 {
		return 0, api.ErrZero
	}
	if b == -1 {
		return Neg(a)
	}
	return a / b, api.OK
}

// Mod is what a division leaves.
func Mod(a, b int) (int, api.Errno) {
	if b == 0 {
		return 0, api.ErrZero
	}
	return a % b, api.OK
}

// Sum is the sum of a list, whatever its order.
func Sum(l []int) (int, api.Errno) {
	sum, turns := 0, 0
	for _, n := range l {
		next, t := turned(sum, n)
		sum, turns = next, turns+t
	}
	return unturned(sum, turns)
}

// turned is a sum less 2^64 for each turn. Turns are counted, not refused, because a later number may undo them.
func turned(a, b int) (sum, turns int) {
	sum = a + b
	switch {
	case b > 0 && sum < a:
		return sum, 1
	case b < 0 && sum > a:
		return sum, -1
	}
	return sum, 0
}

// unturned is a sum of whose turns none is left: any other is beyond the bounds.
func unturned(sum, turns int) (int, api.Errno) {
	if turns != 0 {
		return 0, api.ErrOver
	}
	return sum, api.OK
}

// Text is a number in decimal digits.
func Text(n int) string {
	// Unsigned, because the least number has no other sign; its bits are those of 2^63.
	if n < 0 {
		return "-" + digitsOf(-uint64(n))
	}
	return digitsOf(uint64(n))
}

// digitsOf are the decimal digits of a size of at most 2^63.
func digitsOf(size uint64) string {
	var room [maxDigits]byte
	first := maxDigits
	for range maxDigits {
		first--
		room[first] = '0' + byte(size%10)
		size /= 10
		if size == 0 {
			break
		}
	}
	return string(room[first:])
}

// Read is the number of decimal digits.
func Read(s string) (int, api.Errno) {
	digits, below := strings.CutPrefix(s, "-")
	if !plain(digits) || below && digits == "0" {
		return 0, api.ErrArg
	}
	if len(digits) > maxDigits {
		return 0, api.ErrOver
	}
	size := sizeOf(digits)
	switch {
	case !below && size <= api.MaxInt:
		return int(size), api.OK
	case below && size <= 1<<63:
		return int(-size), api.OK
	}
	return 0, api.ErrOver
}

// plain says whether a text is decimal digits, at least one, and no nought ahead of others.
func plain(s string) bool {
	if s == "" || len(s) > 1 && s[0] == '0' {
		return false
	}
	for k := range len(s) {
		if s[k] < '0' || s[k] > '9' {
			return false
		}
	}
	return true
}

// sizeOf is the size of at most maxDigits digits, which is always below 2^64.
func sizeOf(digits string) uint64 {
	size := uint64(0)
	for k := range len(digits) {
		size = size*10 + uint64(digits[k]-'0')
	}
	return size
}
