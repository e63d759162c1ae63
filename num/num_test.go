package num_test

import (
	"math"
	"math/big"
	"testing"

	"merino/api"
	"merino/num"
)

func TestValid(t *testing.T) {
	for _, f := range edges {
		if !num.Valid(f) {
			t.Error(f, "is valid")
		}
	}
	for _, f := range invalid {
		if num.Valid(f) {
			t.Error(f, "is not valid")
		}
	}
}

// P1.1
func TestMake(t *testing.T) {
	for _, n := range hostile {
		for _, d := range hostile {
			got, e := num.Make(n, d)
			if d == 0 {
				same(t, []int{n, d}, got, e, api.Frac{}, api.ErrZero)
				continue
			}
			want, wantErr := within(big.NewRat(int64(n), int64(d)))
			same(t, []int{n, d}, got, e, want, wantErr)
		}
	}
}

// P1.1, by the chapter's own numbers.
func TestMakeExamples(t *testing.T) {
	for _, c := range []struct {
		n, d int
		want api.Frac
		err  api.Errno
	}{
		{6, -4, fr(-3, 2), api.OK},
		{-6, -4, fr(3, 2), api.OK},
		{0, -9, fr(0, 1), api.OK},
		{math.MinInt, math.MinInt, fr(1, 1), api.OK},
		{math.MinInt, -1 << 40, fr(1<<23, 1), api.OK},
		{math.MinInt, 1 << 23, fr(-api.MaxNum, 1), api.OK},
		{1 << 22, math.MinInt, api.Frac{}, api.ErrRange},
		{1 << 43, math.MinInt, fr(-1, api.MaxDen), api.OK},
		{0, math.MinInt, fr(0, 1), api.OK},
		{api.MaxNum, 1, fr(api.MaxNum, 1), api.OK},
		{api.MaxNum + 1, 1, api.Frac{}, api.ErrRange},
		{2*api.MaxNum + 2, 2, api.Frac{}, api.ErrRange},
		{2 * api.MaxNum, 2, fr(api.MaxNum, 1), api.OK},
		{1, api.MaxDen, fr(1, api.MaxDen), api.OK},
		{1, api.MaxDen + 1, api.Frac{}, api.ErrRange},
		{0, 0, api.Frac{}, api.ErrZero},
		{api.MaxNum + 1, 0, api.Frac{}, api.ErrZero},
	} {
		got, e := num.Make(c.n, c.d)
		same(t, c, got, e, c.want, c.err)
	}
}

// operations are the functions of P1.2 with two operands, and what they are to
// make of exact numbers.
var operations = []struct {
	name  string
	call  func(a, b api.Frac) (api.Frac, api.Errno)
	exact func(a, b *big.Rat) *big.Rat
}{
	{"Add", num.Add, func(a, b *big.Rat) *big.Rat { return new(big.Rat).Add(a, b) }},
	{"Sub", num.Sub, func(a, b *big.Rat) *big.Rat { return new(big.Rat).Sub(a, b) }},
	{"Mul", num.Mul, func(a, b *big.Rat) *big.Rat { return new(big.Rat).Mul(a, b) }},
	{"Div", num.Div, func(a, b *big.Rat) *big.Rat {
		if b.Sign() == 0 {
			return nil
		}
		return new(big.Rat).Quo(a, b)
	}},
}

// checkOperations compares P1.2's functions of a and b with exact arithmetic.
func checkOperations(t *testing.T, a, b api.Frac) {
	t.Helper()
	for _, o := range operations {
		got, e := o.call(a, b)
		what := []any{o.name, a, b}
		exact := o.exact(rat(a), rat(b))
		if exact == nil {
			same(t, what, got, e, api.Frac{}, api.ErrZero)
			continue
		}
		want, wantErr := within(exact)
		same(t, what, got, e, want, wantErr)
	}
	order, e := num.Cmp(a, b)
	same(t, []any{"Cmp", a, b}, order, e, rat(a).Cmp(rat(b)), api.OK)
}

// P1.2
func TestArithmetic(t *testing.T) {
	d := dice(1)
	for _, a := range edges {
		got, e := num.Neg(a)
		same(t, []any{"Neg", a}, got, e, fr(-a.Num, a.Den), api.OK)
		for _, b := range edges {
			checkOperations(t, a, b)
		}
	}
	for range 20000 {
		checkOperations(t, d.frac(), d.frac())
	}
}

// P1.2: only the result is limited.
func TestArithmeticRange(t *testing.T) {
	for _, c := range []struct {
		call func(a, b api.Frac) (api.Frac, api.Errno)
		a, b api.Frac
		want api.Frac
		err  api.Errno
	}{
		{num.Mul, fr(api.MaxNum, api.MaxDen-1), fr(api.MaxDen-1, api.MaxNum>>20), fr(api.MaxDen, 1), api.OK},
		{num.Mul, fr(1, 1<<10), fr(1, 1<<10), fr(1, api.MaxDen), api.OK},
		{num.Mul, fr(1, 1<<10), fr(1, 1<<11), api.Frac{}, api.ErrRange},
		{num.Mul, fr(1<<39, 1), fr(-2, 1), fr(-api.MaxNum, 1), api.OK},
		{num.Mul, fr(1<<39, 1), fr(-3, 1), api.Frac{}, api.ErrRange},
		{num.Mul, fr(api.MaxNum, 1), fr(api.MaxNum, 1), api.Frac{}, api.ErrRange},
		{num.Mul, fr(api.MaxNum, 1), fr(1<<24, 1), api.Frac{}, api.ErrRange},
		{num.Mul, fr(api.MaxNum, 1), fr(0, 1), fr(0, 1), api.OK},
		{num.Add, fr(1, api.MaxDen), fr(-1, api.MaxDen), fr(0, 1), api.OK},
		{num.Add, fr(1, api.MaxDen-1), fr(-1, api.MaxDen), api.Frac{}, api.ErrRange},
		{num.Add, fr(api.MaxNum, 1), fr(1, 1), api.Frac{}, api.ErrRange},
		{num.Add, fr(api.MaxNum, 1), fr(-1, 1), fr(api.MaxNum-1, 1), api.OK},
		{num.Sub, fr(-api.MaxNum, 1), fr(1, 1), api.Frac{}, api.ErrRange},
		{num.Sub, fr(-api.MaxNum, 1), fr(-api.MaxNum, 1), fr(0, 1), api.OK},
		{num.Div, fr(api.MaxNum, 1), fr(-api.MaxNum, 1), fr(-1, 1), api.OK},
		{num.Div, fr(1, 1), fr(-api.MaxDen, 1), fr(-1, api.MaxDen), api.OK},
		{num.Div, fr(1, 1), fr(api.MaxDen+1, 1), api.Frac{}, api.ErrRange},
		{num.Div, fr(api.MaxNum, 1), fr(1, 2), api.Frac{}, api.ErrRange},
	} {
		got, e := c.call(c.a, c.b)
		same(t, []any{c.a, c.b}, got, e, c.want, c.err)
	}
}

// P1.2
func TestArithmeticInvalid(t *testing.T) {
	for _, bad := range invalid {
		got, e := num.Neg(bad)
		same(t, []any{"Neg", bad}, got, e, api.Frac{}, api.ErrArg)
		for _, other := range append([]api.Frac{fr(0, 1), fr(1, 2)}, bad) {
			for _, pair := range [][2]api.Frac{{bad, other}, {other, bad}} {
				for _, o := range operations {
					got, e := o.call(pair[0], pair[1])
					same(t, []any{o.name, pair}, got, e, api.Frac{}, api.ErrArg)
				}
				order, e := num.Cmp(pair[0], pair[1])
				same(t, []any{"Cmp", pair}, order, e, 0, api.ErrArg)
			}
		}
	}
}
