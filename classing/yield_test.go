package classing_test

import (
	"math/big"
	"testing"

	"merino/api"
	"merino/classing"
)

// yield is Yield by the words of the chapter.
func yield(kind, wool, veg, raw int) int {
	var part *big.Rat
	switch kind {
	case api.YieldBase:
		part = rat(wool, raw)
	case api.YieldScoured:
		part = times(rat(wool+veg, raw), rat(117, 98))
	case api.YieldTop:
		part = minus(times(rat(wool, raw), rat(1207, 1000)), rat(77, 1000))
		waste := plus(rat(78, 10), times(rat(100, 1), rat(veg, raw)))
		part = plus(part, over(rat(406, 1000), waste))
		if part.Sign() < 0 {
			return 0
		}
	}
	return halfEven(times(part, rat(10000, 1)))
}

// yields fails the test unless all yields are those of the chapter.
func yields(t *testing.T, wool, veg, raw int) {
	t.Helper()
	for kind := range 3 {
		got, e := classing.Yield(kind, wool, veg, raw)
		same(t, [4]int{kind, wool, veg, raw}, got, e, yield(kind, wool, veg, raw), api.OK)
	}
}

// P3.3 and the second example.
func TestYield(t *testing.T) {
	for _, c := range []struct{ kind, wool, veg, raw, want int }{
		{api.YieldBase, 600, 20, 1000, 6000},
		{api.YieldScoured, 600, 20, 1000, 7402},
		// 1207*600/1000000 is 0.7242; less 0.077 is 0.6472; 0.406/9.8 is 0.041428..
		{api.YieldTop, 600, 20, 1000, 6886},
		{api.YieldBase, 0, 0, 1, 0},
		{api.YieldBase, 1, 0, 1, 10000},
		{api.YieldScoured, 1, 0, 1, 11939},
		{api.YieldScoured, 0, 1, 1, 11939},
		// 1.207 less 0.077 is 1.13; 0.406/7.8 is 0.052051..
		{api.YieldTop, 1, 0, 1, 11821},
		// 0 less 0.077 and 0.406/7.8 is negative.
		{api.YieldTop, 0, 0, 1, 0},
		{api.YieldTop, 0, 1, 1, 0},
		{api.YieldTop, 0, 80000, 80000, 0},
		// Halves go to the even number: 312.5, 937.5, 1562.5.
		{api.YieldBase, 1, 0, 32, 312},
		{api.YieldBase, 3, 0, 32, 938},
		{api.YieldBase, 5, 0, 32, 1562},
		{api.YieldBase, 80000, 0, 80000, 10000},
		{api.YieldBase, 79996, 4, 80000, 10000},
		{api.YieldBase, 79995, 4, 80000, 9999},
	} {
		got, e := classing.Yield(c.kind, c.wool, c.veg, c.raw)
		same(t, c, got, e, c.want, api.OK)
	}
}

// P3.3: every yield of small masses, and yields of many others.
func TestYieldsByTheWords(t *testing.T) {
	for raw := 1; raw <= 40; raw++ {
		for wool := range raw + 1 {
			for veg := range raw - wool + 1 {
				yields(t, wool, veg, raw)
			}
		}
	}
	for _, raw := range []int{79999, 80000} {
		for wool := 0; wool <= raw; wool += 799 {
			for _, veg := range []int{0, 1, (raw - wool) / 7, raw - wool} {
				yields(t, wool, veg, raw)
			}
		}
	}
	d := dice(1)
	for range 20000 {
		raw := 1 + d.IntN(1<<(1+d.IntN(16)))
		wool := d.IntN(raw + 1)
		yields(t, wool, d.IntN(raw-wool+1), raw)
	}
}

// P3.3: the yield of top where it is least above and below 0.
func TestTopNearZero(t *testing.T) {
	for raw := 1; raw <= 2000; raw++ {
		for wool := raw * 19 / 1000; wool <= min(raw, raw*24/1000+1); wool++ {
			yields(t, wool, 0, raw)
			yields(t, wool, raw/100, raw)
		}
	}
}

// P3.3: what is not a yield.
func TestNoYield(t *testing.T) {
	for _, kind := range hostile {
		for _, n := range hostile {
			for _, c := range [][3]int{{n, 1, 100}, {1, n, 100}, {1, 1, n}, {n, n, n}, {n, 0, 80000}, {0, n, 80000}} {
				wool, veg, raw := c[0], c[1], c[2]
				got, e := classing.Yield(kind, wool, veg, raw)
				if kind < 0 || kind > 2 || raw < 1 || raw > 80000 || wool < 0 || veg < 0 || wool > raw || veg > raw || wool+veg > raw {
					same(t, [2]any{kind, c}, got, e, 0, api.ErrArg)
				} else {
					same(t, [2]any{kind, c}, got, e, yield(kind, wool, veg, raw), api.OK)
				}
			}
		}
	}
	for kind := range 3 {
		for _, c := range [][3]int{{51, 50, 100}, {101, 0, 100}, {0, 101, 100}, {-1, 5, 100}, {5, -1, 100}, {0, 0, 0}, {0, 0, 80001}} {
			got, e := classing.Yield(kind, c[0], c[1], c[2])
			same(t, c, got, e, 0, api.ErrArg)
		}
	}
}
