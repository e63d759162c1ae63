package classing_test

import (
	"math/rand/v2"
	"testing"

	"merino/api"
	"merino/classing"
)

// fibres is the histogram of these diameters.
func fibres(diameters ...int) api.Hist {
	var h api.Hist
	for _, i := range diameters {
		h[i]++
	}
	return h
}

// with is h with another count of one diameter.
func with(h api.Hist, i, count int) api.Hist {
	h[i] = count
	return h
}

// notHists are histograms that are not valid.
func notHists() []api.Hist {
	list := []api.Hist{
		with(fibres(5), 3, -1), with(fibres(), 0, -1), with(fibres(), 63, -1),
		with(fibres(5), 6, api.MaxDen), with(fibres(), 0, api.MaxDen+1), with(fibres(), 63, api.MaxDen+1),
		with(with(fibres(), 1, api.MaxDen), 2, -1), with(with(fibres(), 1, -1), 2, api.MaxDen),
		with(with(fibres(), 0, api.MaxDen/2+1), 63, api.MaxDen/2),
	}
	for _, n := range hostile {
		if n < 0 || n > api.MaxDen {
			list = append(list, with(fibres(), 17, n), with(with(fibres(), 17, n), 18, n))
		}
	}
	return list
}

// full is a histogram of as many fibres as there may be.
func full(i, j int) api.Hist {
	h := with(fibres(), i, api.MaxDen/2)
	h[j] += api.MaxDen / 2
	return h
}

// anyHist is a valid histogram with up to 2^bits fibres.
func anyHist(d *rand.Rand, bits int) api.Hist {
	var h api.Hist
	left := d.IntN(1<<bits + 1)
	for left > 0 {
		n := 1 + d.IntN(left)
		h[d.IntN(64)] += n
		left -= n
	}
	return h
}

// hists are valid histograms of every size.
func hists() []api.Hist {
	list := []api.Hist{
		{}, fibres(0), fibres(63), fibres(0, 63), fibres(0, 0, 1), fibres(19, 20, 20, 21, 22), full(0, 63), full(0, 0), full(63, 63), full(62, 63),
		with(fibres(), 0, api.MaxDen), with(fibres(0), 63, api.MaxDen-1), with(fibres(63), 0, api.MaxDen-1),
	}
	for i := range 64 {
		list = append(list, with(fibres(), i, i+1))
	}
	for seed := range uint64(400) {
		d := dice(seed)
		list = append(list, anyHist(d, d.IntN(21)))
	}
	return list
}

// P3.4: Total.
func TestTotal(t *testing.T) {
	for _, h := range hists() {
		want := 0
		for _, count := range h {
			want += count
		}
		got, e := classing.Total(h)
		same(t, h, got, e, want, api.OK)
	}
}

// P3.4 and P3.11: Merge.
func TestMerge(t *testing.T) {
	list := hists()
	for i, a := range list {
		b, c := list[(7*i+3)%len(list)], list[(11*i+5)%len(list)]
		var want api.Hist
		totalA, _ := classing.Total(a)
		totalB, _ := classing.Total(b)
		wantErr := api.ErrRange
		if totalA+totalB <= api.MaxDen {
			wantErr = api.OK
			for i := range want {
				want[i] = a[i] + b[i]
			}
		}
		ab, e := classing.Merge(a, b)
		same(t, [2]any{a, b}, ab, e, want, wantErr)
		ba, e2 := classing.Merge(b, a)
		same(t, "commutative", ba, e2, ab, e)
		if e == api.OK {
			total, _ := classing.Total(ab)
			same(t, "total", total, e, totalA+totalB, api.OK)
		}
		bc, e2 := classing.Merge(b, c)
		if e == api.OK && e2 == api.OK {
			left, e := classing.Merge(ab, c)
			right, e2 := classing.Merge(a, bc)
			same(t, "associative", left, e, right, e2)
		}
	}
	h, e := classing.Merge(full(3, 4), fibres())
	same(t, "full", h, e, full(3, 4), api.OK)
	h, e = classing.Merge(full(3, 4), fibres(5))
	same(t, "more than full", h, e, api.Hist{}, api.ErrRange)
	h, e = classing.Merge(with(fibres(), 1, api.MaxDen/2), with(fibres(), 1, api.MaxDen/2))
	same(t, "two halves", h, e, full(1, 1), api.OK)
}

// P3.4: Micron and Variance by the words of the chapter.
func TestMean(t *testing.T) {
	for _, h := range hists() {
		total, sum, squares := 0, 0, 0
		for i, count := range h {
			total, sum, squares = total+count, sum+i*count, squares+i*i*count
		}
		micron, e := classing.Micron(h)
		variance, e2 := classing.Variance(h)
		if total == 0 {
			same(t, h, micron, e, 0, api.ErrZero)
			same(t, h, variance, e2, 0, api.ErrZero)
			continue
		}
		mean, hundred := rat(sum, total), rat(100, 1)
		same(t, h, micron, e, halfEven(times(mean, hundred)), api.OK)
		same(t, h, variance, e2, halfEven(times(minus(rat(squares, total), times(mean, mean)), hundred)), api.OK)
	}
}

// P3.4: Micron and Variance by hand.
func TestMeanByHand(t *testing.T) {
	for _, c := range []struct {
		h                api.Hist
		micron, variance int
	}{
		{fibres(20), 2000, 0},
		{fibres(20, 21), 2050, 25},
		{fibres(0, 0, 1), 33, 22},
		{fibres(0, 63), 3150, 99225},
		{full(0, 63), 3150, 99225},
		{full(63, 63), 6300, 0},
		// 12.5 goes to 12, 37.5 to 38; the variance 10.9375 of the first to 11.
		{with(fibres(1), 0, 7), 12, 11},
		{with(fibres(1, 1, 1), 0, 5), 38, 23},
		// The variances 12.5 and 37.5 go to 12 and 38.
		{with(fibres(0, 2), 1, 14), 100, 12},
		{with(fibres(0, 0, 0, 2, 2, 2), 1, 10), 100, 38},
		// Two of 20 make the variance 0.09, one of 20 makes 0.0475.
		{with(with(fibres(), 1, 2), 0, 18), 10, 9},
		{with(fibres(1), 0, 19), 5, 5},
	} {
		micron, e := classing.Micron(c.h)
		same(t, c.h, micron, e, c.micron, api.OK)
		variance, e := classing.Variance(c.h)
		same(t, c.h, variance, e, c.variance, api.OK)
	}
}

// shares are valid fractions from 0 to 1.
func shares(d *rand.Rand, total int) []api.Frac {
	list := []api.Frac{
		{Num: 0, Den: 1}, {Num: 1, Den: 1}, {Num: 1, Den: 2}, {Num: 1, Den: 3}, {Num: 2, Den: 3},
		{Num: 1, Den: api.MaxDen}, {Num: api.MaxDen - 1, Den: api.MaxDen}, {Num: 1, Den: api.MaxDen - 1},
	}
	for range 6 {
		den := 1 + d.IntN(max(total, 1))
		r := rat(d.IntN(den+1), den)
		list = append(list, api.Frac{Num: int(r.Num().Int64()), Den: int(r.Denom().Int64())})
	}
	return list
}

// P3.4 and P3.11: Quantile by the words of the chapter.
func TestQuantile(t *testing.T) {
	d := dice(5)
	for _, h := range hists() {
		total, _ := classing.Total(h)
		for _, f := range shares(d, total) {
			q, e := classing.Quantile(h, f)
			if total == 0 {
				same(t, f, q, e, 0, api.ErrZero)
				continue
			}
			want, count := 0, h[0]
			for rat(count, 1).Cmp(times(rat(f.Num, f.Den), rat(total, 1))) < 0 {
				want++
				count += h[want]
			}
			same(t, [2]any{h, f}, q, e, want, api.OK)
		}
	}
	for _, c := range []struct {
		h      api.Hist
		n, den int
		want   int
	}{
		{fibres(19, 20, 20, 21), 0, 1, 0},
		{fibres(19, 20, 20, 21), 1, 4, 19},
		{fibres(19, 20, 20, 21), 1, 2, 20},
		{fibres(19, 20, 20, 21), 3, 4, 20},
		{fibres(19, 20, 20, 21), 1, 1, 21},
		{fibres(19, 20, 20, 21), 1, 5, 19},
		{fibres(19, 20, 20, 21), 4, 5, 21},
		{fibres(63), 1, api.MaxDen, 63},
		{full(0, 63), 1, 2, 0},
		{full(0, 63), 524289, api.MaxDen, 63},
	} {
		q, e := classing.Quantile(c.h, api.Frac{Num: c.n, Den: c.den})
		same(t, c, q, e, c.want, api.OK)
	}
}

// P3.4: Share by the words of the chapter.
func TestShare(t *testing.T) {
	for _, h := range hists() {
		total, _ := classing.Total(h)
		count := 0
		for below := range 65 {
			got, e := classing.Share(h, below)
			if total == 0 {
				same(t, below, got, e, api.Frac{}, api.ErrZero)
				continue
			}
			r := rat(count, total)
			same(t, below, got, e, api.Frac{Num: int(r.Num().Int64()), Den: int(r.Denom().Int64())}, api.OK)
			if below < 64 {
				count += h[below]
			}
		}
	}
}

// P3.4: which error, and which first.
func TestHistErrors(t *testing.T) {
	frac := api.Frac{Num: 1, Den: 2}
	for _, h := range notHists() {
		for _, f := range []api.Frac{frac, {}, {Num: 3, Den: 2}} {
			n, e := classing.Quantile(h, f)
			same(t, h, n, e, 0, api.ErrArg)
		}
		for _, below := range []int{0, 5, -1, 65} {
			f, e := classing.Share(h, below)
			same(t, h, f, e, api.Frac{}, api.ErrArg)
		}
		n, e := classing.Total(h)
		same(t, h, n, e, 0, api.ErrArg)
		n, e = classing.Micron(h)
		same(t, h, n, e, 0, api.ErrArg)
		n, e = classing.Variance(h)
		same(t, h, n, e, 0, api.ErrArg)
		for _, other := range []api.Hist{{}, fibres(5), full(1, 2), h} {
			m, e := classing.Merge(h, other)
			same(t, h, m, e, api.Hist{}, api.ErrArg)
			m, e = classing.Merge(other, h)
			same(t, h, m, e, api.Hist{}, api.ErrArg)
		}
	}
	for _, h := range []api.Hist{{}, fibres(5), full(1, 2)} {
		for _, f := range []api.Frac{
			{}, {Num: 1}, {Num: 0, Den: 2}, {Num: 2, Den: 4}, {Num: 1, Den: -1}, {Num: -1, Den: 2}, {Num: 3, Den: 2}, {Num: 2, Den: 1}, {Num: -1, Den: 1},
			{Num: 1, Den: api.MaxDen + 1}, {Num: api.MaxDen + 1, Den: api.MaxDen}, {Num: -1, Den: api.MaxDen},
		} {
			n, e := classing.Quantile(h, f)
			same(t, f, n, e, 0, api.ErrArg)
		}
		for _, below := range hostile {
			if below < 0 || below > 64 {
				f, e := classing.Share(h, below)
				same(t, below, f, e, api.Frac{}, api.ErrArg)
			}
		}
	}
}
