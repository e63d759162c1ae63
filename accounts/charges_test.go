package accounts_test

import (
	"fmt"
	"math"
	"math/big"
	"slices"
	"testing"

	"merino/accounts"
	"merino/api"
)

// scale is a scale of bands, given as pairs of Upto and Rate.
func scale(numbers ...int) []api.Band {
	var all []api.Band
	for i := 0; i+1 < len(numbers); i += 2 {
		all = append(all, api.Band{Upto: numbers[i], Rate: numbers[i+1]})
	}
	return all
}

// charge is Charge, by the words of the chapter.
func charge(cents int, bands []api.Band) int {
	sum, before := new(big.Rat), 0
	for _, b := range bands {
		in := 0
		if cents > before {
			in = min(cents, b.Upto) - before
		}
		part := big.NewRat(int64(in), 1)
		sum.Add(sum, part.Mul(part, big.NewRat(int64(b.Rate), 10000)))
		before = b.Upto
	}
	return rounded(sum, false)
}

// The chapter's second example, and charges that are plain (P7.3).
func TestCharge(t *testing.T) {
	two := scale(500, 200, 2000, 100)
	for _, c := range []struct {
		cents int
		bands []api.Band
		want  int
	}{
		{1000, two, 15}, {0, two, 0}, {500, two, 10}, {2000, two, 25}, {549, two, 10}, {550, two, 11}, {24, two, 0},
		{25, two, 1}, {74, two, 1}, {75, two, 2}, {0, nil, 0}, {0, scale(1, 10000), 0}, {1, scale(1, 10000), 1},
		{1, scale(1, 5000), 1}, {1, scale(1, 4999), 0}, {2, scale(1, 4999, 2, 1), 1}, // rounded once
		{3, scale(1, 3000, 2, 3000, 3, 3000), 1}, {72000, scale(1000000, 200), 1440},
		{api.MaxCents, scale(api.MaxCents, 10000), api.MaxCents}, {api.MaxCents, scale(api.MaxCents, 0), 0},
		{api.MaxCents, scale(1, 5000, api.MaxCents, 10000), api.MaxCents},
		{api.MaxCents, scale(1, 4999, api.MaxCents, 10000), api.MaxCents - 1},
		{api.MaxCents - 1, scale(api.MaxCents, 9999), 1099401676612},
	} {
		got, e := accounts.Charge(c.cents, c.bands)
		same(t, c, got, e, c.want, api.OK)
	}
}

// P7.3: charges are those of the chapter's words, exactly.
func TestChargeIsExact(t *testing.T) {
	d := dice(2)
	for range 5000 {
		var bands []api.Band
		upto, step := 0, 1+d.IntN(1<<d.IntN(37))
		for range 1 + d.IntN(16) {
			upto += 1 + d.IntN(step)
			bands = append(bands, api.Band{Upto: upto, Rate: []int{0, 10000, 5000, d.IntN(10001)}[d.IntN(4)]})
		}
		passed := fmt.Sprint(bands)
		for range 4 {
			cents := d.IntN(upto + 1)
			if d.IntN(3) == 0 {
				cents = bands[d.IntN(len(bands))].Upto - d.IntN(2)
			}
			got, e := accounts.Charge(cents, bands)
			same(t, fmt.Sprint(cents, bands), got, e, charge(cents, bands), api.OK)
		}
		got, e := accounts.Charge(upto+1, bands)
		same(t, fmt.Sprint(upto+1, bands), got, e, 0, api.ErrRange)
		equal(t, "the bands", bands, passed)
	}
}

// P7.3: each cent is charged by the band in which it lies.
func TestChargeCentByCent(t *testing.T) {
	bands := scale(3, 10000, 4, 0, 9, 5000, 12, 1)
	parts := 0
	for cents, rate := range []int{0, 10000, 10000, 10000, 0, 5000, 5000, 5000, 5000, 5000, 1, 1, 1} {
		parts += rate
		got, e := accounts.Charge(cents, bands)
		same(t, cents, got, e, rounded(big.NewRat(int64(parts), 10000), false), api.OK)
	}
}

// P7.3: the errors of Charge, in their order.
func TestChargeErrors(t *testing.T) {
	long := scale()
	for i := range 17 {
		long = append(long, api.Band{Upto: i + 1, Rate: i})
	}
	got, e := accounts.Charge(16, long[:16])
	same(t, "16 bands", got, e, 0, api.OK)
	bad := scale(0, 0)
	for _, c := range []struct {
		cents int
		bands []api.Band
		want  api.Errno
	}{
		{-1, nil, api.ErrArg}, {math.MinInt, nil, api.ErrArg}, {api.MaxCents + 1, nil, api.ErrArg}, {math.MaxInt, nil, api.ErrArg},
		{-1, long, api.ErrArg}, {-1, bad, api.ErrArg}, {0, long, api.ErrLimit}, {99, long, api.ErrLimit},
		{0, slices.Repeat(bad, 17), api.ErrLimit}, {0, bad, api.ErrArg}, {99, bad, api.ErrArg},
		{0, scale(-1, 0), api.ErrArg}, {0, scale(math.MinInt, 0), api.ErrArg}, {0, scale(math.MaxInt, 0), api.ErrArg},
		{0, scale(api.MaxCents+1, 0), api.ErrArg}, {0, scale(1, -1), api.ErrArg}, {0, scale(1, 10001), api.ErrArg},
		{0, scale(1, math.MaxInt), api.ErrArg}, {0, scale(1, math.MinInt), api.ErrArg}, {0, scale(5, 1, 5, 1), api.ErrArg},
		{0, scale(5, 1, 4, 1), api.ErrArg}, {0, scale(5, 1, 6, 1, 6, 1), api.ErrArg}, {9, scale(5, 1, 4, 1), api.ErrArg},
		{api.MaxCents, scale(1, 2, 3, 10001), api.ErrArg}, {1, nil, api.ErrRange}, {6, scale(5, 1), api.ErrRange},
		{api.MaxCents, nil, api.ErrRange}, {api.MaxCents, scale(5, 1, api.MaxCents-1, 1), api.ErrRange},
	} {
		got, e := accounts.Charge(c.cents, c.bands)
		same(t, c, got, e, 0, c.want)
	}
}

// interest is Interest, by the words of the chapter.
func interest(cents, rate, days int) int {
	r := big.NewRat(int64(cents), 10000*365)
	r.Mul(r, big.NewRat(int64(rate), 1))
	return rounded(r.Mul(r, big.NewRat(int64(days), 1)), true)
}

// P7.4: interest that is plain: halves go to the even cent, whatever the whole
// cents are, and the greatest interest is more than 2^50.
func TestInterest(t *testing.T) {
	most := api.MaxCents * api.MaxDay / 365
	if most <= api.MaxAmount {
		t.Fatal(most)
	}
	for _, c := range []struct{ cents, rate, from, to, want int }{
		{100, 10000, 0, 365, 100}, {100, 10000, 7, 372, 100}, {100, 500, 0, 365, 5}, {10000, 365, 0, 1, 1}, {10000, 365, 5, 5, 0},
		{0, 10000, 0, api.MaxDay, 0}, {100, 0, 0, api.MaxDay, 0}, {5000, 365, 0, 1, 0}, {15000, 365, 0, 1, 2}, {25000, 365, 0, 1, 2},
		{25001, 365, 0, 1, 3}, {5001, 365, 0, 1, 1}, {-5000, 365, 0, 1, 0}, {-15000, 365, 0, 1, -2}, {-25000, 365, 0, 1, -2},
		{-5001, 365, 0, 1, -1}, {1, 5000, 0, 365, 0}, {1, 5000, 0, 3 * 365, 2}, {1, 5000, 0, 5 * 365, 2}, {1, 5000, 0, 7 * 365, 4},
		{3, 5000, 0, 365, 2}, {3, 5000, 0, 3 * 365, 4}, {3, 5000, 0, 5 * 365, 8}, {-3, 5000, 0, 5 * 365, -8},
		{api.MaxCents, 10000, 0, 365, api.MaxCents}, {-api.MaxCents, 10000, 0, 730, -2 * api.MaxCents},
		{api.MaxCents, 10000, 0, api.MaxDay, 3012360624043836}, {-api.MaxCents, 10000, 0, api.MaxDay, -3012360624043836},
		{api.MaxCents, 10000, api.MaxDay, api.MaxDay, 0},
	} {
		got, e := accounts.Interest(c.cents, c.rate, c.from, c.to)
		same(t, c, got, e, c.want, api.OK)
		equal(t, c, interest(c.cents, c.rate, c.to-c.from), c.want)
	}
}

// P7.4: interest is that of the chapter's words, exactly, and its sign is that
// of the cents.
func TestInterestIsExact(t *testing.T) {
	d := dice(3)
	halves := 0
	for range 30000 {
		cents := d.IntN(1<<d.IntN(41) + 1)
		rate := []int{10000, 5000, 365, 730, d.IntN(10001)}[d.IntN(5)]
		from := d.IntN(1 << d.IntN(20))
		to := from + []int{1, 73, 365, 365 * (1 + 2*d.IntN(700)), d.IntN(1 << d.IntN(20))}[d.IntN(5)]
		if to > api.MaxDay {
			continue
		}
		got, e := accounts.Interest(cents, rate, from, to)
		same(t, []int{cents, rate, from, to}, got, e, interest(cents, rate, to-from), api.OK)
		got, e = accounts.Interest(-cents, rate, from, to)
		same(t, []int{-cents, rate, from, to}, got, e, -interest(cents, rate, to-from), api.OK)
		if r := big.NewRat(int64(cents)*int64(rate), 10000*365); r.Mul(r, big.NewRat(int64(to-from), 1)).Denom().Int64() == 2 {
			halves++
		}
	}
	if halves < 500 {
		t.Error(halves, "halves")
	}
}

// P7.4: the errors of Interest.
func TestInterestErrors(t *testing.T) {
	for _, c := range [][4]int{
		{api.MaxCents + 1, 1, 0, 1}, {-api.MaxCents - 1, 1, 0, 1}, {math.MinInt, 1, 0, 1}, {math.MaxInt, 1, 0, 1},
		{1, -1, 0, 1}, {1, 10001, 0, 1}, {1, math.MinInt, 0, 1}, {1, math.MaxInt, 0, 1}, {1, 1, -1, 1}, {1, 1, 0, api.MaxDay + 1},
		{1, 1, math.MinInt, math.MaxInt}, {1, 1, 0, math.MaxInt}, {1, 1, math.MinInt, 0}, {1, 1, 1, 0}, {1, 1, 1, -1},
		{1, 1, api.MaxDay, 0}, {1, 1, api.MaxDay + 1, api.MaxDay + 1}, {0, 0, 2, 1},
	} {
		got, e := accounts.Interest(c[0], c[1], c[2], c[3])
		same(t, c, got, e, 0, api.ErrArg)
	}
}
