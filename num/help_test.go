package num_test

import (
	"math"
	"math/big"
	"testing"

	"merino/api"
)

// modes are all rounding modes.
var modes = []int{api.Floor, api.Ceil, api.Trunc, api.HalfUp, api.HalfEven}

// notModes are numbers that are no rounding modes.
var notModes = []int{-1, 5, 6, math.MinInt, math.MaxInt}

// hostile are ints at and round every limit.
var hostile = []int{
	math.MinInt, math.MinInt + 1, -api.MaxAmount - 1, -api.MaxAmount, -api.MaxNum - 1, -api.MaxNum,
	-api.MaxMass - 1, -api.MaxMass, -api.MaxValue - 1, -api.MaxValue, -api.MaxDen - 1, -api.MaxDen,
	-257, -256, -10, -3, -2, -1, 0, 1, 2, 3, 10, 64, 65, 256, 257,
	api.MaxDen - 1, api.MaxDen, api.MaxDen + 1, api.MaxValue, api.MaxValue + 1, api.MaxMass, api.MaxMass + 1,
	api.MaxNum - 1, api.MaxNum, api.MaxNum + 1, api.MaxAmount, api.MaxAmount + 1, math.MaxInt - 1, math.MaxInt,
}

// invalid are fractions that are not valid.
var invalid = []api.Frac{
	{}, fr(1, 0), fr(0, 2), fr(0, -1), fr(2, 4), fr(-6, 4), fr(api.MaxDen, api.MaxDen), fr(1, -1), fr(-1, -2),
	fr(1, api.MaxDen+1), fr(api.MaxNum+1, 1), fr(-api.MaxNum-1, 1), fr(math.MinInt, 1), fr(math.MaxInt, 1),
	fr(1, math.MinInt), fr(1, math.MaxInt), fr(math.MinInt, math.MinInt), fr(math.MinInt, 0),
}

// edges are valid fractions at and round the limits.
var edges = []api.Frac{
	fr(0, 1), fr(1, 1), fr(-1, 1), fr(1, 2), fr(-1, 2), fr(-3, 2), fr(5, 2), fr(1, 3), fr(2, 3), fr(-7, 3),
	fr(1, api.MaxDen), fr(-1, api.MaxDen), fr(1, api.MaxDen-1), fr(-1, api.MaxDen-1), fr(2, api.MaxDen-1),
	fr(api.MaxNum, 1), fr(-api.MaxNum, 1), fr(api.MaxNum-1, 1), fr(1-api.MaxNum, 1),
	fr(api.MaxNum-1, api.MaxDen), fr(1-api.MaxNum, api.MaxDen), fr(api.MaxNum, api.MaxDen-1), fr(-api.MaxNum, api.MaxDen-1),
	fr(api.MaxDen, 1), fr(-api.MaxDen, 1), fr(api.MaxDen+1, api.MaxDen), fr(api.MaxDen, api.MaxDen-1), fr(3, 1<<19), fr(1<<39, 3),
}

func fr(n, d int) api.Frac { return api.Frac{Num: n, Den: d} }

// dice gives numbers that look random and are the same in every run.
type dice uint64

func (d *dice) next() uint64 {
	*d += 0x9e3779b97f4a7c15
	z := uint64(*d)
	z = (z ^ z>>30) * 0xbf58476d1ce4e5b9
	z = (z ^ z>>27) * 0x94d049bb133111eb
	return z ^ z>>31
}

// from gives a number from low to high.
func (d *dice) from(low, high int) int {
	return low + int(d.next()%uint64(high-low+1))
}

// sized gives a number from 0 to 2^most, of every length in bits about as often.
func (d *dice) sized(most int) int { return d.from(0, 1<<d.from(0, most)) }

// signed gives a number from -2^most to 2^most.
func (d *dice) signed(most int) int { return d.sized(most) * d.from(-1, 1) }

// frac gives a valid fraction.
func (d *dice) frac() api.Frac {
	for {
		r := big.NewRat(int64(d.signed(40)), int64(d.sized(20)+1))
		if f, e := within(r); e == api.OK {
			return f
		}
	}
}

// weights gives from 1 to most weights of up to 2^bits, some of them 0, one positive at least.
func (d *dice) weights(most, bits int) []int {
	list := make([]int, d.from(1, most))
	for i := range list {
		if d.from(0, 4) > 0 {
			list[i] = d.sized(bits)
		}
	}
	list[d.from(0, len(list)-1)] = 1 + d.from(0, 1<<bits-1)
	return list
}

func rat(f api.Frac) *big.Rat { return big.NewRat(int64(f.Num), int64(f.Den)) }

// within is what a function that is limited to valid fractions answers for r.
func within(r *big.Rat) (api.Frac, api.Errno) {
	n, d := r.Num(), r.Denom()
	if n.CmpAbs(big.NewInt(api.MaxNum)) > 0 || d.Cmp(big.NewInt(api.MaxDen)) > 0 {
		return api.Frac{}, api.ErrRange
	}
	return fr(int(n.Int64()), int(d.Int64())), api.OK
}

// rounding is what a function that rounds to an amount answers for r, by the
// words of the chapter.
func rounding(r *big.Rat, mode int) (int, api.Errno) {
	floor := new(big.Int)
	floor.DivMod(r.Num(), r.Denom(), new(big.Int))
	rest := new(big.Rat).Sub(r, new(big.Rat).SetInt(floor))
	half := rest.Cmp(big.NewRat(1, 2))
	up := false
	switch mode {
	case api.Ceil:
		up = rest.Sign() > 0
	case api.Trunc:
		up = rest.Sign() > 0 && r.Sign() < 0
	case api.HalfUp:
		up = half >= 0
	case api.HalfEven:
		up = half > 0 || half == 0 && floor.Bit(0) == 1
	}
	if up {
		floor.Add(floor, big.NewInt(1))
	}
	if floor.CmpAbs(big.NewInt(api.MaxAmount)) > 0 {
		return 0, api.ErrRange
	}
	return int(floor.Int64()), api.OK
}

// same fails the test unless a call answered what was wanted.
func same[T comparable](t *testing.T, what any, got T, e api.Errno, want T, wantErr api.Errno) {
	t.Helper()
	if got != want || e != wantErr {
		t.Errorf("%v: got %v, error %d; want %v, error %d", what, got, e, want, wantErr)
	}
}
