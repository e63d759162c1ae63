package accounts

import (
	"merino/api"
	"merino/num"
)

const (
	mostBands  = 16
	wholeRate  = 10000 // the rate at which a cent is charged a cent
	daysOfYear = 365
)

// Charge returns what is charged for cents by a scale.
func Charge(cents int, scale []api.Band) (int, api.Errno) {
	if cents < 0 || cents > api.MaxCents {
		return 0, api.ErrArg
	}
	if len(scale) > mostBands {
		return 0, api.ErrLimit
	}
	parts, below := 0, 0 // parts of a cent, 10000 of which are one
	for _, b := range scale {
		if b.Upto <= below || b.Upto > api.MaxCents || !isRate(b.Rate) {
			return 0, api.ErrArg
		}
		parts += (min(cents, b.Upto) - min(cents, below)) * b.Rate
		below = b.Upto
	}
	if cents > below {
		return 0, api.ErrRange
	}
	// The parts may be more than MulDiv takes; a whole number of cents that is
	// set aside does not change how the rest is rounded.
	rest, err := num.MulDiv(parts%wholeRate, 1, wholeRate, api.HalfUp)
	if err != api.OK {
		return 0, err
	}
	return parts/wholeRate + rest, api.OK
}

// Interest returns the interest on cents from a day to another one.
func Interest(cents, rate, from, to int) (int, api.Errno) {
	if !isCents(cents) || !isRate(rate) || !isSpan(from, to) {
		return 0, api.ErrArg
	}
	// The interest may be more than MulDiv returns. What is set aside is an
	// even number of cents, so that half a cent more is rounded to the same
	// side without it.
	const divisor = wholeRate * daysOfYear
	factor := rate * (to - from)
	rest, err := num.MulDiv(cents, factor%(2*divisor), divisor, api.HalfEven)
	if err != api.OK {
		return 0, err
	}
	return factor/(2*divisor)*2*cents + rest, api.OK
}

// isCents reports whether n is cents.
func isCents(n int) bool { return -api.MaxCents <= n && n <= api.MaxCents }

// isRate reports whether n is a rate.
func isRate(n int) bool { return 0 <= n && n <= wholeRate }

// isSpan reports whether these are days, the second not before the first.
func isSpan(from, to int) bool { return isDay(from) && isDay(to) && from <= to }
