package num_test

import (
	"math"
	"math/big"
	"math/bits"
	"slices"
	"testing"

	"merino/api"
	"merino/num"
)

// P1.3
func TestRound(t *testing.T) {
	for mode, want := range []int{-2, -1, -1, -1, -2} {
		got, e := num.Round(fr(-3, 2), mode)
		same(t, mode, got, e, want, api.OK)
	}
	fracs := slices.Clone(edges)
	for n := -24; n <= 24; n++ {
		for d := 1; d <= 8; d++ {
			f, _ := num.Make(n, d)
			fracs = append(fracs, f)
		}
	}
	d := dice(2)
	for range 2000 {
		fracs = append(fracs, d.frac())
	}
	for _, f := range fracs {
		for _, mode := range modes {
			got, e := num.Round(f, mode)
			want, wantErr := rounding(rat(f), mode)
			same(t, []any{f, mode}, got, e, want, wantErr)
		}
	}
}

// P1.3
func TestRoundInvalid(t *testing.T) {
	for _, f := range invalid {
		got, e := num.Round(f, api.Floor)
		same(t, f, got, e, 0, api.ErrArg)
		got, e = num.Scale(1, f, api.Floor)
		same(t, f, got, e, 0, api.ErrArg)
	}
	for _, mode := range notModes {
		got, e := num.Round(fr(1, 2), mode)
		same(t, mode, got, e, 0, api.ErrArg)
		got, e = num.Scale(1, fr(1, 2), mode)
		same(t, mode, got, e, 0, api.ErrArg)
		got, e = num.Scale(api.MaxAmount, fr(api.MaxNum, 1), mode)
		same(t, mode, got, e, 0, api.ErrArg)
		got, e = num.MulDiv(1, 1, 1, mode)
		same(t, mode, got, e, 0, api.ErrArg)
		got, e = num.MulDiv(1, 1, 0, mode)
		same(t, mode, got, e, 0, api.ErrArg)
		got, e = num.Mean([]int{1}, []int{1}, mode)
		same(t, mode, got, e, 0, api.ErrArg)
	}
}

// P1.3
func TestScale(t *testing.T) {
	d := dice(3)
	check := func(amount int, f api.Frac) {
		for _, mode := range modes {
			got, e := num.Scale(amount, f, mode)
			if amount < -api.MaxAmount || amount > api.MaxAmount {
				same(t, []any{amount, f, mode}, got, e, 0, api.ErrArg)
				continue
			}
			exact := new(big.Rat).Mul(big.NewRat(int64(amount), 1), rat(f))
			want, wantErr := rounding(exact, mode)
			same(t, []any{amount, f, mode}, got, e, want, wantErr)
		}
	}
	for _, amount := range hostile {
		for _, f := range edges {
			check(amount, f)
		}
	}
	for range 5000 {
		check(d.signed(50), d.frac())
	}
}

// P1.3
func TestMulDiv(t *testing.T) {
	d := dice(4)
	check := func(a, b, c int) {
		for _, mode := range modes {
			got, e := num.MulDiv(a, b, c, mode)
			what := []int{a, b, c, mode}
			outside := func(n int) bool { return n < -api.MaxAmount || n > api.MaxAmount }
			if slices.ContainsFunc([]int{a, b, c}, outside) {
				same(t, what, got, e, 0, api.ErrArg)
				continue
			}
			if c == 0 {
				same(t, what, got, e, 0, api.ErrZero)
				continue
			}
			product := new(big.Int).Mul(big.NewInt(int64(a)), big.NewInt(int64(b)))
			want, wantErr := rounding(new(big.Rat).SetFrac(product, big.NewInt(int64(c))), mode)
			same(t, what, got, e, want, wantErr)
		}
	}
	for _, a := range hostile {
		for _, b := range hostile {
			for _, c := range []int{-1 << 63, -api.MaxAmount - 1, -api.MaxAmount, -3, -2, -1, 0, 1, 2, 3, 1 << 30, api.MaxAmount, api.MaxAmount + 1} {
				check(a, b, c)
			}
		}
	}
	for range 5000 {
		check(d.signed(50), d.signed(50), d.signed(50))
	}
}

// P1.3: it is the rounded result that is limited.
func TestRoundedRange(t *testing.T) {
	const third = 750599937895083
	if 3*third != 2*api.MaxAmount+1 {
		t.Fatal("3*third/2 is to be half above MaxAmount")
	}
	for mode, fits := range []bool{true, false, true, false, true} {
		want, wantErr := api.MaxAmount, api.OK
		if !fits {
			want, wantErr = 0, api.ErrRange
		}
		got, e := num.MulDiv(3, third, 2, mode)
		same(t, mode, got, e, want, wantErr)
	}
	for mode, fits := range []bool{false, true, true, true, true} {
		want, wantErr := -api.MaxAmount, api.OK
		if !fits {
			want, wantErr = 0, api.ErrRange
		}
		got, e := num.MulDiv(third, 3, -2, mode)
		same(t, mode, got, e, want, wantErr)
		got, e = num.Scale(-third, fr(3, 2), mode)
		same(t, mode, got, e, want, wantErr)
	}
	// 2^64 - 1 and a rest: rounded upwards it is 2^64, which is 0 in 64 bits.
	const factor = 145295143558111
	if high, low := bits.Mul64(31*8191, factor); high != 1 || low != math.MaxUint64 {
		t.Fatal("31*8191*factor is to be 2^65 - 1")
	}
	for _, mode := range modes {
		got, e := num.MulDiv(31*8191, factor, 2, mode)
		same(t, mode, got, e, 0, api.ErrRange)
		got, e = num.MulDiv(31*8191, factor, -2, mode)
		same(t, mode, got, e, 0, api.ErrRange)
	}
}

// exactMean is the mean before it is rounded; the weights must not sum to 0.
func exactMean(values, weights []int) *big.Rat {
	sum, total := new(big.Int), new(big.Int)
	for i, v := range values {
		w := big.NewInt(int64(weights[i]))
		total.Add(total, w)
		sum.Add(sum, w.Mul(w, big.NewInt(int64(v))))
	}
	return new(big.Rat).SetFrac(sum, total)
}

// P1.4
func TestMean(t *testing.T) {
	d := dice(5)
	lists := [][2][]int{
		{{10, 20}, {1, 3}},
		{{1, 2}, {1, 1}},
		{{-1, -2}, {1, 1}},
		{{1, 2, 7}, {1, 1, 0}},
		{slices.Repeat([]int{api.MaxValue}, 256), slices.Repeat([]int{api.MaxMass}, 256)},
		{slices.Repeat([]int{-api.MaxValue}, 256), slices.Repeat([]int{api.MaxMass}, 256)},
		{slices.Repeat([]int{api.MaxValue, api.MaxValue - 1}, 128), slices.Repeat([]int{api.MaxMass}, 256)},
		{{api.MaxValue, -api.MaxValue}, {api.MaxMass, api.MaxMass - 1}},
	}
	for range 3000 {
		weights := d.weights(12, d.from(0, 30))
		values := make([]int, len(weights))
		for i := range values {
			values[i] = d.signed(d.from(0, 24))
		}
		lists = append(lists, [2][]int{values, weights})
	}
	for _, l := range lists {
		exact := exactMean(l[0], l[1])
		for _, mode := range modes {
			got, e := num.Mean(l[0], l[1], mode)
			want, wantErr := rounding(exact, mode)
			same(t, []any{l, mode}, got, e, want, wantErr)
		}
	}
}

// P1.4
func TestMeanErrors(t *testing.T) {
	ones := slices.Repeat([]int{1}, 257)
	for _, c := range []struct {
		values, weights []int
		mode            int
		err             api.Errno
	}{
		{ones[:256], ones[:256], 0, api.OK},
		{ones, ones, 0, api.ErrLimit},
		{ones, ones[:1], 0, api.ErrLimit},
		{ones[:1], ones, 0, api.ErrLimit},
		{ones, ones, 9, api.ErrLimit},
		{ones[:2], ones[:1], 0, api.ErrArg},
		{nil, ones[:1], 0, api.ErrArg},
		{[]int{api.MaxValue + 1}, []int{1}, 0, api.ErrArg},
		{[]int{-api.MaxValue - 1}, []int{1}, 0, api.ErrArg},
		{[]int{-1 << 63}, []int{0}, 0, api.ErrArg},
		{[]int{1}, []int{-1}, 0, api.ErrArg},
		{[]int{1}, []int{api.MaxMass + 1}, 0, api.ErrArg},
		{[]int{1, 1}, []int{-1, 1}, 0, api.ErrArg},
		{[]int{1}, []int{0}, 0, api.ErrZero},
		{[]int{1, 2}, []int{0, 0}, 4, api.ErrZero},
		{nil, nil, 0, api.ErrZero},
		{nil, nil, 5, api.ErrArg},
		{[]int{1}, []int{0}, -1, api.ErrArg},
	} {
		got, e := num.Mean(c.values, c.weights, c.mode)
		want := 0
		if c.err == api.OK {
			want = 1
		}
		same(t, []any{len(c.values), len(c.weights), c.mode}, got, e, want, c.err)
	}
}
