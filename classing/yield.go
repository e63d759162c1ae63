package classing

import (
	"merino/api"
	"merino/num"
)

const (
	// maxRaw is the most raw mass of a yield: that of eight subsamples.
	maxRaw = 80000
	// yieldUnit is what a yield of all the raw mass is.
	yieldUnit = 10000
)

// Yield returns the yield of a kind, in ten-thousandths of the raw mass.
func Yield(kind, wool, veg, raw int) (int, api.Errno) {
	if raw < 1 || raw > maxRaw || wool < 0 || wool > raw || veg < 0 || veg > raw-wool {
		return 0, api.ErrArg
	}
	switch kind {
	case api.YieldBase:
		return num.MulDiv(wool, yieldUnit, raw, api.HalfEven)
	case api.YieldScoured:
		return num.MulDiv((wool+veg)*117, yieldUnit, raw*98, api.HalfEven)
	case api.YieldTop:
		return top(wool, veg, raw)
	default:
		return 0, api.ErrArg
	}
}

// top returns the yield of top,
//
//	wool/raw * 1207/1000 - 77/1000 + (406/1000)/(78/10 + 100*veg/raw),
//
// which is over one denominator, so that it is rounded once,
//
//	((1207*wool - 77*raw)*waste + 2030*raw*raw) / (1000*raw*waste)
//
// with waste = 39*raw + 500*veg. As wool + veg is at most raw, the numerator
// is below 157300*raw*raw, and so within MaxAmount.
func top(wool, veg, raw int) (int, api.Errno) {
	waste := 39*raw + 500*veg
	over := (1207*wool-77*raw)*waste + 2030*raw*raw
	return num.MulDiv(max(over, 0), yieldUnit/1000, raw*waste, api.HalfEven)
}
