package num

import (
	"cmp"
	"math/bits"

	"merino/api"
)

// Round returns f rounded to an integer.
func Round(f api.Frac, mode int) (int, api.Errno) {
	if !Valid(f) || !isMode(mode) {
		return 0, api.ErrArg
	}
	return rounded(f.Num < 0, size(f.Num), 1, size(f.Den), mode)
}

// Scale returns amount times f, rounded.
func Scale(amount int, f api.Frac, mode int) (int, api.Errno) {
	if !within(amount, api.MaxAmount) || !Valid(f) || !isMode(mode) {
		return 0, api.ErrArg
	}
	negative := (amount < 0) != (f.Num < 0)
	return rounded(negative, size(amount), size(f.Num), size(f.Den), mode)
}

// MulDiv returns a times b divided by c, rounded.
func MulDiv(a, b, c, mode int) (int, api.Errno) {
	if !within(a, api.MaxAmount) || !within(b, api.MaxAmount) || !within(c, api.MaxAmount) || !isMode(mode) {
		return 0, api.ErrArg
	}
	if c == 0 {
		return 0, api.ErrZero
	}
	negative := ((a < 0) != (b < 0)) != (c < 0)
	return rounded(negative, size(a), size(b), size(c), mode)
}

// Mean returns the mean of values, weighted by weights, rounded once.
func Mean(values, weights []int, mode int) (int, api.Errno) {
	if len(values) > api.MaxParts || len(weights) > api.MaxParts {
		return 0, api.ErrLimit
	}
	if len(values) != len(weights) || !isMode(mode) {
		return 0, api.ErrArg
	}
	// 2^8 products of 2^24 and 2^30 sum to at most 2^62.
	sum, total := 0, 0
	for i, w := range weights {
		if !within(values[i], api.MaxValue) || !isWeight(w) {
			return 0, api.ErrArg
		}
		sum += values[i] * w
		total += w
	}
	if total == 0 {
		return 0, api.ErrZero
	}
	return rounded(sum < 0, size(sum), 1, size(total), mode)
}

// isMode reports whether mode is a rounding mode.
func isMode(mode int) bool { return api.Floor <= mode && mode <= api.HalfEven }

// rounded returns a*b/c, negated if negative, rounded from its exact value;
// c is not 0. ErrRange if that is outside -MaxAmount to MaxAmount.
func rounded(negative bool, a, b, c uint64, mode int) (int, api.Errno) {
	high, low := bits.Mul64(a, b)
	if high >= c {
		// The quotient needs more than 64 bits.
		return 0, api.ErrRange
	}
	quotient, rest := bits.Div64(high, low, c)
	if quotient <= api.MaxAmount && isUp(negative, quotient, rest, c, mode) {
		quotient++
	}
	if quotient > api.MaxAmount {
		return 0, api.ErrRange
	}
	return signed(negative, quotient), api.OK
}

// isUp reports whether the number quotient + rest/c, negated if negative, is
// rounded away from zero.
func isUp(negative bool, quotient, rest, c uint64, mode int) bool {
	half := cmp.Compare(rest, c-rest)
	switch mode {
	case api.Floor:
		return negative && rest > 0
	case api.Ceil:
		return !negative && rest > 0
	case api.Trunc:
		return false
	case api.HalfUp:
		return half > 0 || half == 0 && !negative
	default:
		return half > 0 || half == 0 && quotient%2 == 1
	}
}
