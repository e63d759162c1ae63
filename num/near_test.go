package num_test

import (
	"math"
	"math/big"
	"slices"
	"testing"

	"merino/api"
	"merino/num"
)

// P1.5 and P1.15
func TestPath(t *testing.T) {
	for _, c := range []struct {
		f    api.Frac
		path []int
	}{
		{fr(-3, 2), []int{-2, 2}},
		{fr(0, 1), []int{0}},
		{fr(5, 1), []int{5}},
		{fr(-5, 1), []int{-5}},
		{fr(1, 2), []int{0, 2}},
		{fr(-1, 2), []int{-1, 2}},
		{fr(355, 113), []int{3, 7, 16}},
		{fr(-355, 113), []int{-4, 1, 6, 16}},
		{fr(1, api.MaxDen), []int{0, api.MaxDen}},
		{fr(-1, api.MaxDen), []int{-1, 1, api.MaxDen - 1}},
		{fr(api.MaxNum, 1), []int{api.MaxNum}},
		{fr(-api.MaxNum, 1), []int{-api.MaxNum}},
		{fr(1-api.MaxNum, api.MaxDen), []int{-api.MaxDen, api.MaxDen}},
	} {
		path, e := num.Path(c.f)
		if !slices.Equal(path, c.path) || e != api.OK {
			t.Error(c, path, e)
		}
		f, e := num.FromPath(c.path)
		same(t, c.path, f, e, c.f, api.OK)
	}
	for _, f := range invalid {
		if path, e := num.Path(f); len(path) != 0 || e != api.ErrArg {
			t.Error(f, path, e)
		}
	}
}

// exactPath is the continued fraction by the words of the chapter.
func exactPath(r *big.Rat) []int {
	floor := new(big.Int)
	floor.DivMod(r.Num(), r.Denom(), new(big.Int))
	if r.IsInt() {
		return []int{int(floor.Int64())}
	}
	rest := new(big.Rat).Sub(r, new(big.Rat).SetInt(floor))
	return append([]int{int(floor.Int64())}, exactPath(rest.Inv(rest))...)
}

// P1.5 and P1.15: Path is the continued fraction, and FromPath goes back.
func TestPathRoundTrip(t *testing.T) {
	d := dice(6)
	fracs := slices.Clone(edges)
	for range 5000 {
		fracs = append(fracs, d.frac())
	}
	for _, f := range fracs {
		path, e := num.Path(f)
		if !slices.Equal(path, exactPath(rat(f))) || e != api.OK {
			t.Fatal(f, path, e)
		}
		got, e := num.FromPath(path)
		same(t, path, got, e, f, api.OK)
	}
}

// fromPath is the fraction of a path by the words of the chapter.
func fromPath(path []int) (api.Frac, api.Errno) {
	last := len(path) - 1
	r := new(big.Rat).SetInt64(int64(path[last]))
	for _, step := range slices.Backward(path[:last]) {
		r.Add(r.Inv(r), new(big.Rat).SetInt64(int64(step)))
	}
	return within(r)
}

// P1.5 and P1.15
func TestFromPath(t *testing.T) {
	d := dice(7)
	paths := [][]int{
		{api.MaxNum}, {-api.MaxNum}, {api.MaxNum + 1}, {-api.MaxNum - 1}, {math.MinInt}, {math.MaxInt},
		{-api.MaxNum - 1, 2}, {-api.MaxNum, 2}, {api.MaxNum, 2}, {api.MaxNum / 2, 2}, {-api.MaxNum/2 - 1, 2}, {-api.MaxNum / 2, 2}, {api.MaxNum/2 - 1, 2},
		{math.MinInt, math.MaxInt}, {math.MaxInt, math.MaxInt, math.MaxInt},
		{0, api.MaxDen}, {0, api.MaxDen + 1}, {0, math.MaxInt}, {-1, api.MaxDen}, {-1, 1, api.MaxDen - 1}, {-1, 1, api.MaxDen},
		{0, 1 << 10, 1 << 10}, {0, 1 << 10, 1<<10 - 1}, {0, 1, math.MaxInt}, {0, api.MaxDen, math.MaxInt}, {0, api.MaxDen, 2},
		// products that are small again in 64 bits
		{0, 4, 1 << 62}, {0, 4, 1 << 62, 2}, {0, 2, 1 << 62}, {3, api.MaxDen, 1 << 44}, {3, api.MaxDen, 1 << 44, 2, 3},
		append(slices.Repeat([]int{1}, 63), 2), append(slices.Repeat([]int{1}, 26), 2), append(slices.Repeat([]int{1}, 29), 2), append(slices.Repeat([]int{1}, 28), 2),
	}
	for range 5000 {
		path := []int{d.signed(40)}
		for range d.from(0, 20) {
			path = append(path, 1+d.sized(d.from(0, 6)))
		}
		if last := len(path) - 1; last > 0 && path[last] == 1 {
			path[last] = 2
		}
		paths = append(paths, path)
	}
	for _, path := range paths {
		kept := slices.Clone(path)
		got, e := num.FromPath(path)
		want, wantErr := fromPath(path)
		same(t, path, got, e, want, wantErr)
		if !slices.Equal(path, kept) {
			t.Error("FromPath changed its argument", kept)
		}
		if e != api.OK {
			continue
		}
		if back, e := num.Path(got); !slices.Equal(back, path) || e != api.OK {
			t.Error(path, got, back, e)
		}
	}
}

// P1.5
func TestFromPathErrors(t *testing.T) {
	ones := slices.Repeat([]int{1}, 65)
	for _, c := range []struct {
		path []int
		err  api.Errno
	}{
		{ones, api.ErrLimit},
		{slices.Repeat([]int{0}, 65), api.ErrLimit},
		{append(slices.Repeat([]int{1}, 64), 2), api.ErrLimit},
		{append(slices.Repeat([]int{1}, 63), 2), api.ErrRange},
		{ones[:64], api.ErrArg},
		{nil, api.ErrArg},
		{[]int{}, api.ErrArg},
		{[]int{1, 1}, api.ErrArg},
		{[]int{0, 0}, api.ErrArg},
		{[]int{0, -1}, api.ErrArg},
		{[]int{0, 0, 2}, api.ErrArg},
		{[]int{0, math.MinInt, 2}, api.ErrArg},
		{[]int{0, 2, 1}, api.ErrArg},
		{[]int{math.MaxInt, 1}, api.ErrArg},
		{[]int{0, api.MaxDen + 1, 0}, api.ErrArg},
		{[]int{math.MaxInt, math.MaxInt, -1}, api.ErrArg},
	} {
		got, e := num.FromPath(c.path)
		same(t, c.path, got, e, api.Frac{}, c.err)
	}
	got, e := num.FromPath([]int{1})
	same(t, "1 alone", got, e, fr(1, 1), api.OK)
}

// floorOf returns the floor of n/d; d is above 0.
func floorOf(n, d int) int {
	if n < 0 {
		return -((-n + d - 1) / d)
	}
	return n / d
}

// simplest looks through all Dens for the simplest fraction between a and b,
// of which no Den is above 2^20 and no Num above 2^40.
func simplest(a, b api.Frac) (n, d int) {
	for d = 1; ; d++ {
		least := floorOf(a.Num*d, a.Den) + 1
		greatest := -floorOf(-b.Num*d, b.Den) - 1
		if least <= greatest {
			return max(least, min(greatest, 0)), d
		}
	}
}

// P1.6
func TestBetween(t *testing.T) {
	for _, c := range []struct{ a, b, want api.Frac }{
		{fr(1, 3), fr(1, 2), fr(2, 5)},
		{fr(-1, 2), fr(5, 2), fr(0, 1)},
		{fr(-1, 2), fr(-1, 3), fr(-2, 5)},
		{fr(0, 1), fr(1, 1), fr(1, 2)},
		{fr(-1, 1), fr(0, 1), fr(-1, 2)},
		{fr(-1, 1), fr(1, 1), fr(0, 1)},
		{fr(0, 1), fr(9, 1), fr(1, 1)},
		{fr(-9, 1), fr(0, 1), fr(-1, 1)},
		{fr(5, 2), fr(9, 1), fr(3, 1)},
		{fr(-9, 1), fr(-5, 2), fr(-3, 1)},
		{fr(0, 1), fr(1, 1<<19), fr(1, 1<<19+1)},
		{fr(-1, 1<<19), fr(0, 1), fr(-1, 1<<19+1)},
	} {
		got, e := num.Between(c.a, c.b)
		same(t, c, got, e, c.want, api.OK)
	}
	var small []api.Frac
	for d := 1; d <= 9; d++ {
		for n := -3 * d; n <= 3*d; n++ {
			if f := fr(n, d); num.Valid(f) {
				small = append(small, f)
			}
		}
	}
	for _, a := range small {
		for _, b := range small {
			if a.Num*b.Den >= b.Num*a.Den {
				continue
			}
			n, d := simplest(a, b)
			got, e := num.Between(a, b)
			same(t, []api.Frac{a, b}, got, e, fr(n, d), api.OK)
		}
	}
}

// P1.6, near the limits.
func TestBetweenFar(t *testing.T) {
	d := dice(8)
	for range 300 {
		a := d.frac()
		b := d.frac()
		if d.from(0, 1) > 0 {
			// a little away from a
			f, e := num.Make(a.Num+d.from(1, 3), a.Den)
			if e != api.OK {
				continue
			}
			b = f
		}
		order, _ := num.Cmp(a, b)
		if order > 0 {
			a, b = b, a
		}
		if order == 0 {
			continue
		}
		n, den := simplest(a, b)
		want, wantErr := within(big.NewRat(int64(n), int64(den)))
		got, e := num.Between(a, b)
		same(t, []api.Frac{a, b}, got, e, want, wantErr)
	}
}

// P1.6
func TestBetweenErrors(t *testing.T) {
	for _, c := range []struct {
		a, b api.Frac
		err  api.Errno
	}{
		{fr(1, 2), fr(1, 2), api.ErrArg},
		{fr(1, 2), fr(1, 3), api.ErrArg},
		{fr(0, 1), fr(0, 1), api.ErrArg},
		{fr(0, 1), fr(1, api.MaxDen), api.ErrRange},
		{fr(-1, api.MaxDen), fr(0, 1), api.ErrRange},
		{fr(1, api.MaxDen), fr(1, api.MaxDen-1), api.ErrRange},
		{fr(api.MaxNum-1, 1), fr(api.MaxNum, 1), api.ErrRange},
		{fr(-api.MaxNum, 1), fr(1-api.MaxNum, 1), api.ErrRange},
	} {
		got, e := num.Between(c.a, c.b)
		same(t, c, got, e, api.Frac{}, c.err)
	}
	for _, bad := range invalid {
		for _, pair := range [][2]api.Frac{{bad, fr(9, 1)}, {fr(-9, 1), bad}, {bad, bad}} {
			got, e := num.Between(pair[0], pair[1])
			same(t, pair, got, e, api.Frac{}, api.ErrArg)
		}
	}
}

// nearest looks through all Dens up to most for the fraction nearest to n/d,
// of two the one with the smaller Den, then the smaller one.
func nearest(n, d, most int) api.Frac {
	var found api.Frac
	distance := 0
	for den := 1; den <= most; den++ {
		whole := n * den / d
		for top := whole - 1; top <= whole+1; top++ {
			// |n/d - top/den| times d*den; the products stay below 2^62.
			apart := max(n*den-top*d, top*d-n*den)
			if den > 1 && apart >= d {
				continue
			}
			if found.Den == 0 || apart*found.Den < distance*den {
				found, distance = fr(top, den), apart
			}
		}
	}
	return found
}

// P1.7 and P1.12
func TestBest(t *testing.T) {
	for _, c := range []struct {
		n, d, most int
		want       api.Frac
	}{
		{355, 113, 10, fr(22, 7)},
		{355, 113, 112, fr(333, 106)},
		{355, 113, 113, fr(355, 113)},
		{1, 2, 1, fr(0, 1)},
		{-1, 2, 1, fr(-1, 1)},
		{3, 2, 1, fr(1, 1)},
		{-3, 2, 1, fr(-2, 1)},
		{1, 4, 2, fr(0, 1)},
		{3, 4, 2, fr(1, 1)},
		{-1, 4, 2, fr(0, 1)},
		{-3, 4, 2, fr(-1, 1)},
		{10, 20, 2, fr(1, 2)},
		{10, 20, 1, fr(0, 1)},
		{0, api.MaxNum, 1, fr(0, 1)},
		{api.MaxNum, 1, 1, fr(api.MaxNum, 1)},
		{-api.MaxNum, 1, api.MaxDen, fr(-api.MaxNum, 1)},
		{api.MaxNum, api.MaxNum, api.MaxDen, fr(1, 1)},
		{1, api.MaxNum, api.MaxDen, fr(0, 1)},
		{-1, api.MaxNum, api.MaxDen, fr(0, 1)},
		{api.MaxNum - 1, api.MaxNum, api.MaxDen, fr(1, 1)},
		{1, api.MaxDen + 1, api.MaxDen, fr(1, api.MaxDen)},
		{api.MaxNum, api.MaxDen + 1, api.MaxDen, fr(api.MaxNum-api.MaxDen+1, api.MaxDen)},
	} {
		got, e := num.Best(c.n, c.d, c.most)
		same(t, c, got, e, c.want, api.OK)
	}
	for most := 1; most <= 7; most++ {
		for d := 1; d <= 24; d++ {
			for n := -2 * d; n <= 2*d; n++ {
				got, e := num.Best(n, d, most)
				same(t, []int{n, d, most}, got, e, nearest(n, d, most), api.OK)
			}
		}
	}
}

// P1.7 and P1.12, near the limits.
func TestBestFar(t *testing.T) {
	d := dice(9)
	for range 3000 {
		n, den, most := d.signed(40), max(1, d.sized(40)), max(1, d.sized(11))
		got, e := num.Best(n, den, most)
		same(t, []int{n, den, most}, got, e, nearest(n, den, most), api.OK)
	}
	for range 6 {
		n, den := d.signed(40), d.from(api.MaxDen, api.MaxNum)
		got, e := num.Best(n, den, api.MaxDen)
		same(t, []int{n, den}, got, e, nearest(n, den, api.MaxDen), api.OK)
		if !num.Valid(got) {
			t.Error(got, "is not valid")
		}
	}
}

// P1.7
func TestBestErrors(t *testing.T) {
	for _, c := range [][3]int{
		{api.MaxNum + 1, 1, 1}, {-api.MaxNum - 1, 1, 1}, {math.MinInt, 1, 1}, {math.MaxInt, 1, 1},
		{1, 0, 1}, {1, -1, 1}, {1, api.MaxNum + 1, 1}, {1, math.MinInt, 1}, {1, math.MaxInt, 1}, {0, 0, 1},
		{1, 1, 0}, {1, 1, -1}, {1, 1, api.MaxDen + 1}, {1, 1, math.MinInt}, {1, 1, math.MaxInt},
	} {
		got, e := num.Best(c[0], c[1], c[2])
		same(t, c, got, e, api.Frac{}, api.ErrArg)
	}
}
