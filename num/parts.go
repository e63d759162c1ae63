package num

import (
	"cmp"
	"math/bits"
	"slices"

	"merino/api"
)

// Apportion divides total among the weights by largest remainders.
func Apportion(total int, weights []int) ([]int, api.Errno) {
	sum, err := sumOf(total, weights)
	if err != api.OK {
		return nil, err
	}
	parts := make([]int, len(weights))
	if sum == 0 {
		return parts, api.OK
	}
	rests := make([]uint64, len(weights))
	order := make([]int, len(weights))
	left := total
	for i, w := range weights {
		parts[i], rests[i] = share(total, w, sum)
		order[i] = i
		left -= parts[i]
	}
	slices.SortStableFunc(order, func(i, j int) int { return cmp.Compare(rests[j], rests[i]) })
	// The remainders sum to left*sum and each is below sum: more than left of
	// them are above 0, or left is 0.
	for _, i := range order[:left] {
		parts[i]++
	}
	return parts, api.OK
}

// Divide divides total among the weights by highest averages.
func Divide(total int, weights []int) ([]int, api.Errno) {
	sum, err := sumOf(total, weights)
	if err != api.OK {
		return nil, err
	}
	if sum == 0 {
		return make([]int, len(weights)), api.OK
	}
	parts := head(total, weights, sum)
	left := total
	for _, part := range parts {
		left -= part
	}
	for range left {
		i := next(parts, weights)
		parts[i]++
	}
	return parts, api.OK
}

// head returns the parts at a moment of Divide at which at most as many units
// are left as there are positive weights.
//
// The units that are given while (2*part + 1)/weight is below 2*x are the first
// ones, whatever x is, and make each part weight*x rounded, a half downwards.
// With x = (2*total - positive)/(2*sum) the exact values sum to total less half
// a unit for each positive weight, and rounding moves each by at most a half.
func head(total int, weights []int, sum int) []int {
	positive := 0
	for _, w := range weights {
		if w > 0 {
			positive++
		}
	}
	parts := make([]int, len(weights))
	if 2*total <= positive {
		return parts
	}
	for i, w := range weights {
		part, rest := share(2*total-positive, w, 2*sum)
		if rest > size(sum) {
			part++
		}
		parts[i] = part
	}
	return parts
}

// next returns the index of the part to which Divide gives the next unit; some
// weight is positive.
func next(parts, weights []int) int {
	found := -1
	for i, w := range weights {
		if w == 0 {
			continue
		}
		if found < 0 || compareProducts(2*parts[i]+1, weights[found], 2*parts[found]+1, w) < 0 {
			found = i
		}
	}
	return found
}

// Fair reports whether parts is a highest-averages division.
func Fair(parts, weights []int) (bool, api.Errno) {
	if len(parts) > api.MaxParts || len(weights) > api.MaxParts {
		return false, api.ErrLimit
	}
	if len(parts) != len(weights) {
		return false, api.ErrArg
	}
	for i, part := range parts {
		if !isAmount(part) || !isWeight(weights[i]) {
			return false, api.ErrArg
		}
	}
	for i, part := range parts {
		if part > 0 && !isDue(i, parts, weights) {
			return false, api.OK
		}
	}
	return true, api.OK
}

// isDue reports whether the last unit of part i, which has one, is not due to
// another part.
func isDue(i int, parts, weights []int) bool {
	if weights[i] == 0 {
		return false
	}
	for j, w := range weights {
		if w > 0 && compareProducts(2*parts[i]-1, w, 2*parts[j]+1, weights[i]) > 0 {
			return false
		}
	}
	return true
}

// sumOf returns the sum of the weights, or the error of Apportion and Divide.
func sumOf(total int, weights []int) (int, api.Errno) {
	if len(weights) > api.MaxParts {
		return 0, api.ErrLimit
	}
	if !isAmount(total) {
		return 0, api.ErrArg
	}
	sum := 0
	for _, w := range weights {
		if !isWeight(w) {
			return 0, api.ErrArg
		}
		sum += w
	}
	if sum == 0 && total > 0 {
		return 0, api.ErrZero
	}
	return sum, api.OK
}

// isAmount reports whether n can be divided, or be a part.
func isAmount(n int) bool { return 0 <= n && n <= api.MaxAmount }

// isWeight reports whether w can be a weight.
func isWeight(w int) bool { return 0 <= w && w <= api.MaxMass }

// share returns total*weight/sum and its remainder; sum is positive and at
// least weight, so that the quotient is at most total.
func share(total, weight, sum int) (int, uint64) {
	high, low := bits.Mul64(size(total), size(weight))
	quotient, rest := bits.Div64(high, low, size(sum))
	return int(quotient), rest
}

// compareProducts compares a*b with c*d, none of which is negative.
func compareProducts(a, b, c, d int) int {
	high1, low1 := bits.Mul64(size(a), size(b))
	high2, low2 := bits.Mul64(size(c), size(d))
	if high1 != high2 {
		return cmp.Compare(high1, high2)
	}
	return cmp.Compare(low1, low2)
}
