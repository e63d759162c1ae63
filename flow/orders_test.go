package flow_test

import (
	"fmt"
	"math"
	"math/rand/v2"
	"slices"
	"testing"

	"merino/api"
	"merino/flow"
)

// P5.6: what suits, at and round each bound.
func TestSuits(t *testing.T) {
	p := api.Parcel{Bales: 0, Price: 10, Micron: 20, Veg: 30, Store: 99}
	for _, c := range []struct {
		w    api.Want
		want bool
	}{
		{api.Want{Price: 10, Low: 20, High: 20, Veg: 30}, true},
		{api.Want{Price: 11, Low: 19, High: 21, Veg: 31}, true},
		{api.Want{Price: 9, Low: 20, High: 20, Veg: 30}, false},
		{api.Want{Price: 10, Low: 21, High: 21, Veg: 30}, false},
		{api.Want{Price: 10, Low: 19, High: 19, Veg: 30}, false},
		{api.Want{Price: 10, Low: 21, High: 19, Veg: 30}, false},
		{api.Want{Price: 10, Low: 20, High: 20, Veg: 29}, false},
		{api.Want{Price: math.MaxInt, Low: math.MinInt, High: math.MaxInt, Veg: math.MaxInt}, true},
		{api.Want{Price: math.MinInt, Low: math.MinInt, High: math.MaxInt, Veg: math.MaxInt}, false},
	} {
		equal(t, c.w, flow.Suits(p, c.w), c.want)
	}
	least := api.Parcel{Price: math.MinInt, Micron: math.MinInt, Veg: math.MinInt}
	equal(t, "the least", flow.Suits(least, api.Want{Price: math.MinInt, Low: math.MinInt, High: math.MinInt, Veg: math.MinInt}), true)
	equal(t, "zero", flow.Suits(api.Parcel{}, api.Want{}), true)
}

// order is the arguments of Fill.
type order struct {
	parcels []api.Parcel
	wants   []api.Want
	tariff  api.Tariff
}

// anyOrder is an order in which prices and tariffs are low, or alike.
func anyOrder(d *rand.Rand, lists, bales, prices int) order {
	var o order
	for range 1 + d.IntN(lists) {
		o.parcels = append(o.parcels, api.Parcel{Bales: d.IntN(bales + 1), Price: d.IntN(prices + 1), Micron: d.IntN(6), Veg: d.IntN(4), Store: d.IntN(8)})
	}
	for range 1 + d.IntN(lists) {
		low := d.IntN(3)
		o.wants = append(o.wants, api.Want{Bales: d.IntN(bales + 1), Price: (prices+1)/2 + d.IntN(prices+1), Low: low, High: low + 2 + d.IntN(4), Veg: 2 + d.IntN(3), Port: d.IntN(8)})
	}
	for i := range o.tariff {
		for j := range o.tariff[i] {
			o.tariff[i][j] = d.IntN(prices + 1)
		}
	}
	return o
}

// fill is Fill of an order.
func (o order) fill() (api.Fill, api.Errno) { return flow.Fill(o.parcels, o.wants, o.tariff) }

// filled is the Fill with these amounts, row behind row, and whether they are
// a plan, by the words of the chapter.
func (o order) filled(amounts []int) (api.Fill, bool) {
	f := api.Fill{Amounts: [][]int{}}
	to := make([]int, len(o.wants))
	for i, p := range o.parcels {
		row := slices.Clone(amounts[i*len(o.wants) : (i+1)*len(o.wants)])
		f.Amounts = append(f.Amounts, row)
		from := 0
		for j, w := range o.wants {
			suits := p.Micron >= w.Low && p.Micron <= w.High && p.Veg <= w.Veg && p.Price <= w.Price
			if row[j] < 0 || row[j] > 0 && !suits {
				return f, false
			}
			from += row[j]
			to[j] += row[j]
			f.Cost += row[j] * (p.Price + o.tariff[p.Store][w.Port])
		}
		f.Bales += from
		if from > p.Bales {
			return f, false
		}
	}
	for j, w := range o.wants {
		if to[j] > w.Bales {
			return f, false
		}
	}
	return f, true
}

// P5.6: of small orders, the plan is what a search of all amounts finds.
func TestFillIsTheBest(t *testing.T) {
	d := dice(10)
	bales := 0
	for range 1500 {
		o := anyOrder(d, 3, 2, 1+d.IntN(3))
		var most []int
		for _, p := range o.parcels {
			for _, w := range o.wants {
				if flow.Suits(p, w) {
					most = append(most, min(p.Bales, w.Bales))
				} else {
					most = append(most, 0)
				}
			}
		}
		best := api.Fill{Bales: -1}
		every(most, func(amounts []int) {
			f, ok := o.filled(amounts)
			if !ok || f.Bales < best.Bales {
				return
			}
			// Of amounts that are as good, the later ones are greater.
			if f.Bales > best.Bales || f.Cost <= best.Cost {
				best = f
			}
		})
		got, e := o.fill()
		answer(t, o, got, e, best, api.OK)
		bales += got.Bales
	}
	if bales < 1000 {
		t.Error(bales, "bales are sent")
	}
}

// P5.6: small orders whose answers are plain.
func TestFill(t *testing.T) {
	two := []api.Parcel{{Bales: 5, Price: 3}, {Bales: 5, Price: 2}}
	wide := api.Want{Bales: 7, Price: 9}
	for _, c := range []struct {
		o    order
		want api.Fill
	}{
		{order{}, api.Fill{}},
		{order{parcels: two}, api.Fill{Amounts: [][]int{{}, {}}}},
		{order{wants: []api.Want{wide}}, api.Fill{}},
		{order{parcels: two, wants: []api.Want{wide}}, api.Fill{Amounts: [][]int{{2}, {5}}, Bales: 7, Cost: 16}},
		{order{parcels: two, wants: []api.Want{wide}, tariff: api.Tariff{{1}}}, api.Fill{Amounts: [][]int{{2}, {5}}, Bales: 7, Cost: 23}},
		{order{parcels: two, wants: []api.Want{{Bales: 7, Price: 2}}}, api.Fill{Amounts: [][]int{{0}, {5}}, Bales: 5, Cost: 10}},
		// More bales come before a lower cost.
		{order{parcels: []api.Parcel{{Bales: 1}, {Bales: 1, Price: 16384}}, wants: []api.Want{{Bales: 1, Price: 16384}, {Bales: 1}}, tariff: api.Tariff{{0, 16384}}},
			api.Fill{Amounts: [][]int{{0, 1}, {1, 0}}, Bales: 2, Cost: 16384}},
		{order{parcels: []api.Parcel{{Bales: 2, Store: 7}, {Bales: 2, Store: 0}}, wants: []api.Want{{Bales: 2, Port: 0}, {Bales: 2, Port: 7}}, tariff: api.Tariff{7: {5, 0, 0, 0, 0, 0, 0, 5}, 0: {5, 0, 0, 0, 0, 0, 0, 5}}},
			api.Fill{Amounts: [][]int{{2, 0}, {0, 2}}, Bales: 4, Cost: 20}},
	} {
		got, e := c.o.fill()
		answer(t, c.o, got, e, c.want, api.OK)
	}
}

// longFill is an order in which the last bale moves all others: each parcel
// but the first suits the want of its own number, which costs nothing, and the
// one before, at the greatest cost; the first suits the last want only.
func longFill() order {
	var o order
	for i := range api.MaxParcels {
		o.parcels = append(o.parcels, api.Parcel{Bales: 1, Micron: 2 * i, Store: i % 2})
		o.wants = append(o.wants, api.Want{Bales: 1, Low: 2 * i, High: 2*i + 2, Port: i % 2})
	}
	o.parcels[0].Micron = 2*api.MaxParcels - 1
	o.tariff = api.Tariff{{0, 16384}, {16384, 0}}
	return o
}

// net is an order as a network, and how much its arcs carry with these amounts
// of a Fill: arcs from each parcel to each want, and a last node, from which
// all bales come, each at a gain that exceeds all costs, and to which they go.
func (o order) net(amounts []int) (net, []int) {
	w := net{n: len(o.parcels) + len(o.wants) + 1}
	amounts = slices.Clone(amounts)
	from, to := make([]int, len(o.parcels)), make([]int, len(o.wants))
	for i, p := range o.parcels {
		for j, want := range o.wants {
			k := len(w.arcs)
			w.arcs = append(w.arcs, arc(i, len(o.parcels)+j, 0, p.Price+o.tariff[p.Store][want.Port]))
			if flow.Suits(p, want) {
				w.arcs[k].Cap = math.MaxInt
			}
			from[i] += amounts[k]
			to[j] += amounts[k]
		}
	}
	for i, p := range o.parcels {
		w.arcs = append(w.arcs, arc(w.n-1, i, p.Bales, -1<<40))
	}
	for j, want := range o.wants {
		w.arcs = append(w.arcs, arc(len(o.parcels)+j, w.n-1, want.Bales, 0))
	}
	return w, slices.Concat(amounts, from, to)
}

// P5.6 and P5.11: many parcels and wants, with the greatest numbers.
func TestLargeFill(t *testing.T) {
	f, e := longFill().fill()
	if e != api.OK || f.Bales != api.MaxParcels || f.Cost != api.MaxParcels*16384 {
		t.Error(f, e)
	}
	d := dice(11)
	for range 60 {
		o := anyOrder(d, 12, api.MaxCount, []int{0, 2, 16384 / 2}[d.IntN(3)])
		f, e := o.fill()
		if len(f.Amounts) != len(o.parcels) || e != api.OK {
			t.Error(o, f, e)
			continue
		}
		amounts := slices.Concat(f.Amounts...)
		g, ok := o.filled(amounts)
		if !ok || !isGreatest(o.net(amounts)) {
			t.Error(o, f)
		}
		answer(t, o, f, e, g, api.OK)
	}
	o := order{parcels: slices.Repeat([]api.Parcel{{Bales: 4096, Price: 16384, Micron: 10000, Veg: 10000, Store: 7}}, 12),
		wants: slices.Repeat([]api.Want{{Bales: 4096, Price: 16384, Low: 10000, High: 10000, Veg: 10000, Port: 7}}, 12)}
	o.tariff[7][7] = 16384
	f, e = o.fill()
	answer(t, "the greatest numbers", f.Bales, e, 12*4096, api.OK)
	answer(t, "their cost", f.Cost, e, 12*4096*2*16384, api.OK)
	for i, row := range f.Amounts {
		want := make([]int, 12)
		want[i] = 4096
		equal(t, i, row, want)
	}
}

// P5.11: more bales in a parcel or in a want never make fewer in all.
func TestNothingIsMade(t *testing.T) {
	d := dice(12)
	for range 300 {
		o := anyOrder(d, 6, 9, 3)
		before, _ := o.fill()
		for range 4 {
			if n := len(o.parcels); n > 0 && d.IntN(2) == 0 {
				o.parcels[d.IntN(n)].Bales += d.IntN(3)
			}
			if n := len(o.wants); n > 0 && d.IntN(2) == 0 {
				o.wants[d.IntN(n)].Bales += d.IntN(3)
			}
			after, e := o.fill()
			if _, ok := o.filled(slices.Concat(after.Amounts...)); !ok || e != api.OK || after.Bales < before.Bales {
				t.Error(o, before, after, e)
			}
			before = after
		}
	}
}

// notParcels and notWants are not valid, each for a reason of its own.
var (
	notParcels = []api.Parcel{
		{Bales: -1}, {Bales: 4097}, {Price: -1}, {Price: 16385}, {Micron: -1}, {Micron: 10001}, {Veg: -1}, {Veg: 10001},
		{Store: -1}, {Store: 8}, {Store: math.MaxInt}, {Bales: math.MinInt},
	}
	notWants = []api.Want{
		{Bales: -1}, {Bales: 4097}, {Price: -1}, {Price: 16385}, {Low: -1}, {Low: 10001}, {High: -1}, {High: 10001},
		{Veg: -1}, {Veg: 10001}, {Port: -1}, {Port: 8}, {Port: math.MinInt}, {Bales: math.MaxInt},
	}
	mostParcel = api.Parcel{Bales: 4096, Price: 16384, Micron: 10000, Veg: 10000, Store: 7}
	mostWant   = api.Want{Bales: 4096, Price: 16384, Low: 10000, High: 10000, Veg: 10000, Port: 7}
)

// P5.6: the errors of Fill, in their order, and the greatest valid values.
func TestFillErrors(t *testing.T) {
	fails := func(o order, want api.Errno) {
		t.Helper()
		f, e := o.fill()
		answer(t, o, f, e, api.Fill{}, want)
	}
	for _, p := range notParcels {
		fails(order{parcels: []api.Parcel{p}}, api.ErrArg)
		fails(order{parcels: []api.Parcel{mostParcel, {}, p}, wants: []api.Want{mostWant}}, api.ErrArg)
		fails(order{parcels: []api.Parcel{p}, wants: make([]api.Want, 13)}, api.ErrLimit)
	}
	for _, w := range notWants {
		fails(order{wants: []api.Want{w}}, api.ErrArg)
		fails(order{parcels: []api.Parcel{mostParcel}, wants: []api.Want{mostWant, {}, w}}, api.ErrArg)
		fails(order{parcels: make([]api.Parcel, 13), wants: []api.Want{w}}, api.ErrLimit)
	}
	for i := range 8 {
		for j := range 8 {
			var o order
			for _, cost := range []int{-1, 16385, math.MaxInt, math.MinInt} {
				o.tariff[i][j] = cost
				fails(o, api.ErrArg)
			}
			o.parcels = make([]api.Parcel, 13)
			fails(o, api.ErrLimit)
			o.parcels, o.tariff[i][j] = nil, 16384
			_, e := o.fill()
			answer(t, "tariff", 0, e, 0, api.OK)
		}
	}
	_, e := order{parcels: slices.Repeat([]api.Parcel{mostParcel}, 12), wants: slices.Repeat([]api.Want{mostWant}, 12)}.fill()
	answer(t, "12 of each", 0, e, 0, api.OK)
	_, e = order{wants: []api.Want{{Low: 5, High: 4}}}.fill()
	answer(t, "nothing suits", 0, e, 0, api.OK)
}

// The chapter's third example, and blends whose answers are plain (P5.7).
func TestBlend(t *testing.T) {
	two := []api.Parcel{{Bales: 9, Price: 10, Micron: 1800}, {Bales: 9, Price: 6, Micron: 2200}}
	alike := slices.Repeat([]api.Parcel{{Bales: 2, Price: 5, Micron: 7}}, 3)
	for _, c := range []struct {
		parcels          []api.Parcel
		bales, low, high int
		amounts          []int
		sum              int
		err              api.Errno
	}{
		{two, 4, 1900, 2000, []int{2, 2}, 32, api.OK},
		{two, 4, 1900, 1999, []int{3, 1}, 36, api.OK},
		{two, 4, 1901, 1999, nil, 0, api.ErrPlan},
		{two, 4, 2000, 1900, nil, 0, api.ErrPlan},
		{two, 4, 2000, 2000, []int{2, 2}, 32, api.OK},
		{two, 3, 1933, 1934, []int{2, 1}, 26, api.OK}, // the mean is 1933 1/3
		{two, 3, 1934, 1934, nil, 0, api.ErrPlan},
		{two, 3, 1933, 1933, nil, 0, api.ErrPlan},
		{two, 18, 0, 10000, []int{9, 9}, 144, api.OK},
		{two, 19, 0, 10000, nil, 0, api.ErrPlan},
		{two, 1, 0, 10000, []int{0, 1}, 6, api.OK},
		{two, 1, 0, 2199, []int{1, 0}, 10, api.OK},
		{alike, 3, 7, 7, []int{2, 1, 0}, 15, api.OK},
		{alike, 6, 7, 7, []int{2, 2, 2}, 30, api.OK},
		{alike, 7, 7, 7, nil, 0, api.ErrPlan},
		{alike, 3, 8, 10000, nil, 0, api.ErrPlan},
		{nil, 1, 0, 10000, nil, 0, api.ErrPlan},
		{[]api.Parcel{{}, {Bales: 1}}, 1, 0, 0, []int{0, 1}, 0, api.OK},
		{slices.Repeat([]api.Parcel{mostParcel}, 6), 24, 10000, 10000, []int{24, 0, 0, 0, 0, 0}, 24 * 16384, api.OK},
	} {
		got, sum, e := flow.Blend(c.parcels, c.bales, c.low, c.high)
		answer(t, fmt.Sprint(c), got, e, c.amounts, c.err)
		answer(t, fmt.Sprint(c), sum, e, c.sum, c.err)
	}
}

// P5.7: of small blends, the cheapest is what a search of all amounts finds.
func TestBlendIsTheCheapest(t *testing.T) {
	d := dice(13)
	found := 0
	for range 2000 {
		var parcels []api.Parcel
		var most []int
		for range d.IntN(6) {
			p := api.Parcel{Bales: d.IntN(5), Price: d.IntN(4), Micron: d.IntN(9), Veg: d.IntN(9), Store: d.IntN(8)}
			parcels = append(parcels, p)
			most = append(most, p.Bales)
		}
		bales, low, high := 1+d.IntN(8), d.IntN(9), d.IntN(10)
		var best []int
		least := 0
		every(most, func(amounts []int) {
			count, microns, sum := 0, 0, 0
			for i, k := range amounts {
				count += k
				microns += k * parcels[i].Micron
				sum += k * parcels[i].Price
			}
			// Of amounts that cost as much, the later ones are greater.
			if count == bales && microns >= low*bales && microns <= high*bales && (best == nil || sum <= least) {
				best, least = slices.Clone(amounts), sum
			}
		})
		got, sum, e := flow.Blend(parcels, bales, low, high)
		wantErr := api.OK
		if best == nil {
			wantErr = api.ErrPlan
		} else {
			found++
		}
		what := fmt.Sprint(parcels, bales, low, high)
		answer(t, what, got, e, best, wantErr)
		answer(t, what, sum, e, least, wantErr)
	}
	if found < 400 || found > 1600 {
		t.Error(found, "blends")
	}
}

// P5.7: the errors of Blend, in their order.
func TestBlendErrors(t *testing.T) {
	bad := notParcels[0]
	for _, c := range []struct {
		parcels          []api.Parcel
		bales, low, high int
		err              api.Errno
	}{
		{make([]api.Parcel, 7), 0, -1, -1, api.ErrLimit},
		{slices.Repeat([]api.Parcel{bad}, 7), 1, 0, 0, api.ErrLimit},
		{make([]api.Parcel, 6), 0, 0, 0, api.ErrArg},
		{nil, 25, 0, 0, api.ErrArg},
		{nil, math.MinInt, 0, 0, api.ErrArg},
		{nil, math.MaxInt, 0, 0, api.ErrArg},
		{nil, 1, -1, 0, api.ErrArg},
		{nil, 1, 10001, 0, api.ErrArg},
		{nil, 1, 0, -1, api.ErrArg},
		{nil, 1, 0, 10001, api.ErrArg},
		{nil, 1, math.MinInt, math.MaxInt, api.ErrArg},
		{nil, 24, 10000, 10000, api.ErrPlan},
		{nil, 1, 0, 0, api.ErrPlan},
	} {
		got, sum, e := flow.Blend(c.parcels, c.bales, c.low, c.high)
		answer(t, fmt.Sprint(c), got, e, []int{}, c.err)
		answer(t, fmt.Sprint(c), sum, e, 0, c.err)
	}
	for _, p := range notParcels {
		for _, parcels := range [][]api.Parcel{{p}, {{Bales: 9}, p}} {
			got, sum, e := flow.Blend(parcels, 1, 0, 10000)
			answer(t, parcels, got, e, []int{}, api.ErrArg)
			answer(t, parcels, sum, e, 0, api.ErrArg)
		}
	}
}

// Rule 4 of the document: no call changes its arguments, or answers with
// memory that it or they share.
func TestOrderMemory(t *testing.T) {
	d := dice(14)
	o := anyOrder(d, 12, 9, 3)
	o.parcels, o.wants = append(o.parcels, api.Parcel{Bales: 3}), append(o.wants, mostWant, api.Want{Bales: 2})
	before := fmt.Sprint(o)
	f, _ := o.fill()
	want := fmt.Sprint(f)
	for i := range f.Amounts {
		row := f.Amounts[i]
		rest := fmt.Sprint(f.Amounts[i+1:])
		_ = append(row, -7)
		for j := range row {
			row[j] = -7
		}
		equal(t, "the rows behind", f.Amounts[i+1:], rest)
	}
	f, _ = o.fill()
	equal(t, "the second plan", f, want)
	parcels := []api.Parcel{{Bales: 4, Price: 1, Micron: 2}, {Bales: 4, Price: 2, Micron: 4}}
	first, _, _ := flow.Blend(parcels, 4, 3, 3)
	first[0] = -7
	second, _, _ := flow.Blend(parcels, 4, 3, 3)
	equal(t, "the second blend", second, []int{2, 2})
	equal(t, "the order", o, before)
	equal(t, "the parcels", parcels, "[{4 1 2 0 0} {4 2 4 0 0}]")
}
