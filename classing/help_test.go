package classing_test

import (
	"math"
	"math/big"
	"math/rand/v2"
	"testing"

	"merino/api"
	"merino/classing"
)

// dice gives the same numbers in every run.
func dice(seed uint64) *rand.Rand { return rand.New(rand.NewPCG(seed, 3)) }

// hostile are ints at and round the limits.
var hostile = []int{
	math.MinInt, math.MinInt + 1, -api.MaxMass, -api.MaxSub, -2, -1, 0, 1, 2, 3, 4, 16, 17, 63, 64, 65,
	api.MaxMicron - 1, api.MaxMicron, api.MaxMicron + 1, 80000, 80001, api.MaxDen, api.MaxDen + 1,
	api.MaxMass, api.MaxMass + 1, api.MaxAmount, api.MaxAmount + 1, math.MaxInt - 1, math.MaxInt,
}

// half is what the rest of a division is compared with.
var half = big.NewRat(1, 2)

// rat is the number n/d.
func rat(n, d int) *big.Rat { return big.NewRat(int64(n), int64(d)) }

func plus(a, b *big.Rat) *big.Rat  { return new(big.Rat).Add(a, b) }
func minus(a, b *big.Rat) *big.Rat { return new(big.Rat).Sub(a, b) }
func times(a, b *big.Rat) *big.Rat { return new(big.Rat).Mul(a, b) }
func over(a, b *big.Rat) *big.Rat  { return new(big.Rat).Quo(a, b) }

// halfEven is r rounded to the nearest integer and a half to the even one.
func halfEven(r *big.Rat) int {
	floor, rest := new(big.Int), new(big.Int)
	floor.DivMod(r.Num(), r.Denom(), rest)
	n := int(floor.Int64())
	switch new(big.Rat).SetFrac(rest, r.Denom()).Cmp(half) {
	case 1:
		n++
	case 0:
		n += n & 1
	}
	return n
}

// same fails the test unless a call answered what was wanted.
func same[T comparable](t *testing.T, what any, got T, e api.Errno, want T, wantErr api.Errno) {
	t.Helper()
	if got != want || e != wantErr {
		t.Errorf("%v: got %v, error %d; want %v, error %d", what, got, e, want, wantErr)
	}
}

// share is a subsample whose base is wool/raw.
func share(wool, raw int) api.Sub { return api.Sub{Raw: raw, Dry: wool} }

// notSubs are subsamples that are not valid, each for a reason of its own.
var notSubs = []api.Sub{
	{},
	{Raw: 0, Dry: 0},
	{Raw: -1},
	{Raw: -1, Dry: -1},
	{Raw: 10001, Dry: 5},
	{Raw: math.MaxInt, Dry: 5},
	{Raw: math.MinInt, Dry: math.MinInt},
	{Raw: 10, Dry: 11},
	{Raw: 10, Dry: -1},
	{Raw: 10, Dry: math.MinInt},
	{Raw: 10, Dry: math.MaxInt},
	{Raw: 10, Dry: 5, Ash: -1},
	{Raw: 10, Dry: 5, Grease: -1},
	{Raw: 10, Dry: 5, Veg: -1},
	{Raw: 10, Dry: 5, Ash: -1, Grease: 1},
	{Raw: 10, Dry: 5, Ash: 1, Grease: -1, Veg: 1},
	{Raw: 10, Dry: 5, Ash: 6},
	{Raw: 10, Dry: 5, Grease: 6},
	{Raw: 10, Dry: 5, Veg: 6},
	{Raw: 10, Dry: 5, Ash: 2, Grease: 2, Veg: 2},
	{Raw: 10, Dry: 5, Ash: 3, Veg: 3},
	{Raw: 10, Dry: 10, Ash: math.MaxInt, Grease: math.MaxInt, Veg: 2},
	{Raw: 10, Dry: 10, Ash: math.MaxInt, Grease: 1, Veg: math.MinInt},
	{Raw: 10, Dry: 10, Ash: math.MinInt, Grease: math.MinInt},
}

// newTest is NewTest where it must succeed.
func newTest(t *testing.T, tol int) *classing.Test {
	t.Helper()
	c, e := classing.NewTest(tol)
	if e != api.OK || c == nil {
		t.Fatal(tol, e)
	}
	return c
}
