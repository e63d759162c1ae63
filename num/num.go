// Package num is layer 1, exact arithmetic: see shared/doc/01-num.md.
package num

import (
	"cmp"
	"math/bits"

	"merino/api"
)

// Valid reports whether f is in lowest terms and within the limits.
func Valid(f api.Frac) bool {
	if f.Den < 1 || f.Den > api.MaxDen || !within(f.Num, api.MaxNum) {
		return false
	}
	return gcd(size(f.Num), size(f.Den)) == 1
}

// Make returns the valid fraction equal to n/d.
func Make(n, d int) (api.Frac, api.Errno) {
	if d == 0 {
		return api.Frac{}, api.ErrZero
	}
	return lowest((n < 0) != (d < 0), size(n), size(d))
}

// Neg returns -f.
func Neg(f api.Frac) (api.Frac, api.Errno) {
	if !Valid(f) {
		return api.Frac{}, api.ErrArg
	}
	return api.Frac{Num: -f.Num, Den: f.Den}, api.OK
}

// Add returns a + b.
func Add(a, b api.Frac) (api.Frac, api.Errno) {
	if !Valid(a) || !Valid(b) {
		return api.Frac{}, api.ErrArg
	}
	// Each product has at most MaxNum*MaxDen = 2^60, so that no int overflows.
	return Make(a.Num*b.Den+b.Num*a.Den, a.Den*b.Den)
}

// Sub returns a - b.
func Sub(a, b api.Frac) (api.Frac, api.Errno) {
	minus, err := Neg(b)
	if err != api.OK {
		return api.Frac{}, err
	}
	return Add(a, minus)
}

// Mul returns a times b.
func Mul(a, b api.Frac) (api.Frac, api.Errno) {
	if !Valid(a) || !Valid(b) {
		return api.Frac{}, api.ErrArg
	}
	// What is reduced crosswise has its product in lowest terms: a numerator
	// that then needs more than 64 bits is outside the limits for good.
	left := gcd(size(a.Num), size(b.Den))
	right := gcd(size(b.Num), size(a.Den))
	high, low := bits.Mul64(size(a.Num)/left, size(b.Num)/right)
	if high > 0 {
		return api.Frac{}, api.ErrRange
	}
	return lowest((a.Num < 0) != (b.Num < 0), low, size(a.Den)/right*(size(b.Den)/left))
}

// Div returns a divided by b.
func Div(a, b api.Frac) (api.Frac, api.Errno) {
	if !Valid(a) || !Valid(b) {
		return api.Frac{}, api.ErrArg
	}
	// Make names b = 0 itself; each product has at most 2^60.
	return Make(a.Num*b.Den, a.Den*b.Num)
}

// Cmp returns -1, 0 or 1 as a is less than, equal to or greater than b.
func Cmp(a, b api.Frac) (int, api.Errno) {
	if !Valid(a) || !Valid(b) {
		return 0, api.ErrArg
	}
	return cmp.Compare(a.Num*b.Den, b.Num*a.Den), api.OK
}

// lowest returns the valid fraction equal to n/d, or to -n/d; d is not 0.
func lowest(negative bool, n, d uint64) (api.Frac, api.Errno) {
	common := gcd(n, d)
	n, d = n/common, d/common
	if n > api.MaxNum || d > api.MaxDen {
		return api.Frac{}, api.ErrRange
	}
	return api.Frac{Num: signed(negative, n), Den: int(d)}, api.OK
}

// gcd returns the greatest common divisor of a and b; that of 0 and b is b.
func gcd(a, b uint64) uint64 {
	for b > 0 {
		a, b = b, a%b
	}
	return a
}

// within reports whether n is from -most to most.
func within(n, most int) bool { return -most <= n && n <= most }

// size returns the absolute value of n, unsigned because that of the smallest
// int is no int.
func size(n int) uint64 {
	if n < 0 {
		return -uint64(n)
	}
	return uint64(n)
}

// signed returns n or -n.
func signed(negative bool, n uint64) int {
	if negative {
		return -int(n)
	}
	return int(n)
}
