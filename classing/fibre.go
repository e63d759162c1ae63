package classing

import (
	"merino/api"
	"merino/num"
)

// Total returns how many fibres h counts.
func Total(h api.Hist) (int, api.Errno) {
	total := 0
	for _, count := range h {
		if count < 0 || count > api.MaxDen-total {
			return 0, api.ErrArg
		}
		total += count
	}
	return total, api.OK
}

// Merge returns the histogram of the fibres of a and of b.
func Merge(a, b api.Hist) (api.Hist, api.Errno) {
	totalA, errA := Total(a)
	totalB, errB := Total(b)
	if errA != api.OK || errB != api.OK {
		return api.Hist{}, api.ErrArg
	}
	if totalA+totalB > api.MaxDen {
		return api.Hist{}, api.ErrRange
	}
	for i, count := range b {
		a[i] += count
	}
	return a, api.OK
}

// Micron returns the mean diameter in hundredths of a micrometre.
func Micron(h api.Hist) (int, api.Errno) {
	total, err := Total(h)
	if err != api.OK {
		return 0, err
	}
	// MulDiv names the total 0 itself.
	return num.MulDiv(moment(h, 1), 100, total, api.HalfEven)
}

// Variance returns the variance of the diameters in hundredths of a square
// micrometre.
func Variance(h api.Hist) (int, api.Errno) {
	total, err := Total(h)
	if err != api.OK {
		return 0, err
	}
	// No variance of numbers from 0 to 63 is above (63/2)^2 < 2^10, so that
	// over is below 2^50, MaxAmount.
	mean := moment(h, 1)
	over := total*moment(h, 2) - mean*mean
	return num.MulDiv(over, 100, total*total, api.HalfEven)
}

// Quantile returns the smallest diameter that is not exceeded by at least the
// share f of the fibres.
func Quantile(h api.Hist, f api.Frac) (int, api.Errno) {
	total, err := Total(h)
	if err != api.OK {
		return 0, err
	}
	if !num.Valid(f) || f.Num < 0 || f.Num > f.Den {
		return 0, api.ErrArg
	}
	if total == 0 {
		return 0, api.ErrZero
	}
	i, count := 0, h[0]
	for count*f.Den < f.Num*total {
		i++
		count += h[i]
	}
	return i, api.OK
}

// Share returns the share of the fibres with a diameter less than below.
func Share(h api.Hist, below int) (api.Frac, api.Errno) {
	total, err := Total(h)
	if err != api.OK {
		return api.Frac{}, err
	}
	if below < 0 || below > len(h) {
		return api.Frac{}, api.ErrArg
	}
	count := 0
	for _, c := range h[:below] {
		count += c
	}
	// Make names the total 0 itself.
	return num.Make(count, total)
}

// moment returns the sum of the diameters, each to this power.
func moment(h api.Hist, power int) int {
	sum := 0
	for i, count := range h {
		for range power {
			count *= i
		}
		sum += count
	}
	return sum
}
