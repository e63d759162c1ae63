package classing_test

import (
	"cmp"
	"math"
	"math/rand/v2"
	"slices"
	"testing"

	"merino/api"
	"merino/classing"
)

var (
	fine   = api.Kind{'A', 'A', 'A', 'M'}
	coarse = api.Kind{'A', 'A', 'B', 'M'}
	high   = api.Kind{255, 0, 0, 0}
	kinds  = []api.Kind{fine, coarse, {}, high, {0, 0, 0, 1}}
	wide   = api.Spec{Lines: 16, Least: 0, Spread: api.MaxMicron}
)

// fleece is a fleece of this kind, micron and mass.
func fleece(kind api.Kind, micron, grams int) api.Fleece {
	return api.Fleece{Kind: kind, Micron: micron, Grams: grams}
}

// flock is fleeces of one kind, of these microns and the mass 1.
func flock(microns ...int) []api.Fleece {
	list := make([]api.Fleece, len(microns))
	for i, m := range microns {
		list[i] = fleece(fine, m, 1)
	}
	return list
}

// anyFlock is up to most fleeces of a few kinds.
func anyFlock(d *rand.Rand, most int) []api.Fleece {
	list := make([]api.Fleece, d.IntN(most+1))
	some, microns, grams := 1+d.IntN(3), 1+d.IntN(12), 1+d.IntN(6)
	for i := range list {
		list[i] = fleece(kinds[d.IntN(some)], 1+d.IntN(microns), 1+d.IntN(grams))
		if d.IntN(20) == 0 {
			list[i].Micron, list[i].Grams = api.MaxMicron-d.IntN(2), api.MaxMass-d.IntN(2)
		}
	}
	return list
}

// anySpec is conditions that fit such a flock.
func anySpec(d *rand.Rand) api.Spec {
	s := api.Spec{Lines: 1 + d.IntN(6), Spread: d.IntN(14)}
	if d.IntN(2) == 0 {
		s.Least = d.IntN(9)
	}
	if d.IntN(3) == 0 {
		s.Spread = api.MaxMicron
	}
	return s
}

// inOrder is the indexes of the fleeces in the order, by the words of the chapter.
func inOrder(fleeces []api.Fleece) []int {
	var order []int
	for i, f := range fleeces {
		at := slices.IndexFunc(order, func(j int) bool {
			g := fleeces[j]
			kind := slices.Compare(f.Kind[:], g.Kind[:])
			return kind < 0 || kind == 0 && f.Micron < g.Micron
		})
		if at < 0 {
			at = len(order)
		}
		order = slices.Insert(order, at, i)
	}
	return order
}

// lineOf is the line of these fleeces and whether it is one, by the words of the chapter.
func lineOf(fleeces []api.Fleece, spec api.Spec, indexes []int) (api.Line, bool) {
	first := fleeces[indexes[0]]
	l := api.Line{Kind: first.Kind, Fleeces: indexes}
	least, most := first.Micron, first.Micron
	for _, i := range indexes {
		f := fleeces[i]
		if f.Kind != first.Kind {
			return l, false
		}
		least, most = min(least, f.Micron), max(most, f.Micron)
		l.Grams += f.Grams
	}
	reached := 0
	for _, i := range indexes {
		reached += fleeces[i].Grams
		if 2*reached >= l.Grams {
			l.Centre = fleeces[i].Micron
			break
		}
	}
	for _, i := range indexes {
		away := fleeces[i].Micron - l.Centre
		if away < 0 {
			away = -away
		}
		l.Cost += fleeces[i].Grams * away
	}
	return l, l.Grams >= spec.Least && most-least <= spec.Spread
}

// cuts calls do with the lengths of every cut of n fleeces, those that come
// first in lexicographic order first.
func cuts(n int, do func([]int)) {
	var on func(left int, lengths []int)
	on = func(left int, lengths []int) {
		if left == 0 {
			do(lengths)
		}
		for length := 1; length <= left; length++ {
			on(left-length, append(lengths, length))
		}
	}
	on(n, nil)
}

// planOf is the lines with these lengths and their cost, and whether all are lines.
func planOf(fleeces []api.Fleece, spec api.Spec, lengths []int) ([]api.Line, int, bool) {
	order := inOrder(fleeces)
	var lines []api.Line
	cost := 0
	for _, length := range lengths {
		l, ok := lineOf(fleeces, spec, order[:length])
		if !ok {
			return nil, 0, false
		}
		lines = append(lines, l)
		cost += l.Cost
		order = order[length:]
	}
	return lines, cost, true
}

// lengthsOf is the lengths of a plan.
func lengthsOf(lines []api.Line) []int {
	var lengths []int
	for _, l := range lines {
		lengths = append(lengths, len(l.Fleeces))
	}
	return lengths
}

func sameLine(a, b api.Line) bool {
	return a.Kind == b.Kind && slices.Equal(a.Fleeces, b.Fleeces) && a.Grams == b.Grams && a.Centre == b.Centre && a.Cost == b.Cost
}

// prices are what a line may cost besides.
var prices = []int{0, 1, 2, 5, 30, 10000, api.MaxAmount - 1, api.MaxAmount}

// found is what a look at every cut finds.
type found struct {
	best  []api.Line
	cost  int
	has   bool
	curve []int
	price []int // for each of prices; -1 if there is no cut
}

// search looks at every cut.
func search(fleeces []api.Fleece, spec api.Spec) found {
	f := found{curve: slices.Repeat([]int{-1}, spec.Lines), price: slices.Repeat([]int{-1}, len(prices))}
	cuts(len(fleeces), func(lengths []int) {
		lines, cost, ok := planOf(fleeces, spec, lengths)
		if !ok {
			return
		}
		for i, p := range prices {
			if sum := cost + p*len(lines); f.price[i] < 0 || sum < f.price[i] {
				f.price[i] = sum
			}
		}
		k := len(lines)
		if k > spec.Lines {
			return
		}
		if k > 0 && (f.curve[k-1] < 0 || cost < f.curve[k-1]) {
			f.curve[k-1] = cost
		}
		if !f.has || cmp.Or(cmp.Compare(cost, f.cost), cmp.Compare(k, len(f.best))) < 0 {
			f.best, f.cost, f.has = lines, cost, true
		}
	})
	return f
}

// P3.5, P3.6, P3.8, P3.9: small flocks, against every cut of them.
func TestPlansOfSmallFlocks(t *testing.T) {
	without := 0
	for seed := range uint64(4000) {
		d := dice(seed)
		fleeces, spec := anyFlock(d, 9), anySpec(d)
		want := search(fleeces, spec)
		wantErr := api.OK
		if !want.has {
			wantErr = api.ErrPlan
			without++
		}
		lines, cost, e := classing.Lines(fleeces, spec)
		if e != wantErr || cost != want.cost || !slices.EqualFunc(lines, want.best, sameLine) {
			t.Fatalf("%v %v: %v, cost %d, error %d; want %v, cost %d", fleeces, spec, lines, cost, e, want.best, want.cost)
		}
		curve, e := classing.Curve(fleeces, spec)
		if e != api.OK || !slices.Equal(curve, want.curve) {
			t.Fatal(fleeces, spec, curve, e, want.curve)
		}
		for i, p := range prices {
			wantErr := api.OK
			if want.price[i] < 0 {
				want.price[i], wantErr = 0, api.ErrPlan
			}
			got, e := classing.Price(fleeces, spec, p)
			same(t, [3]any{fleeces, spec, p}, got, e, want.price[i], wantErr)
		}
	}
	if without < 100 {
		t.Error("too few flocks without a plan", without)
	}
}

// P3.7: the cost of every cut of small flocks.
func TestCostOfEveryCut(t *testing.T) {
	for seed := range uint64(300) {
		d := dice(seed)
		fleeces, spec := anyFlock(d, 8), anySpec(d)
		cuts(len(fleeces), func(lengths []int) {
			_, want, ok := planOf(fleeces, spec, lengths)
			wantErr := api.OK
			if !ok || len(lengths) > spec.Lines {
				want, wantErr = 0, api.ErrPlan
			}
			got, e := classing.Cost(fleeces, spec, lengths)
			same(t, [3]any{fleeces, spec, lengths}, got, e, want, wantErr)
		})
	}
}

// P3.5: plans by hand.
func TestLinesByHand(t *testing.T) {
	for _, c := range []struct {
		what    string
		fleeces []api.Fleece
		spec    api.Spec
		lengths []int
		cost    int
	}{
		{"the third example", flock(1900, 1910, 2300), api.Spec{Lines: 2, Spread: 10000}, []int{2, 1}, 10},
		{"one line", flock(1900, 1910, 2300), api.Spec{Lines: 1, Spread: 10000}, []int{3}, 400},
		{"no cost in three lines", flock(1900, 1910, 2300), api.Spec{Lines: 16, Spread: 10000}, []int{1, 1, 1}, 0},
		{"the fewest lines of no cost", flock(7, 5, 7, 5), wide, []int{2, 2}, 0},
		{"shorter lengths first", flock(10, 20, 30), api.Spec{Lines: 2, Spread: 10000}, []int{1, 2}, 10},
		{"shorter lengths first, once more", flock(10, 10, 20, 20, 30, 30), api.Spec{Lines: 2, Spread: 10000}, []int{2, 4}, 20},
		{"a spread that suffices", flock(10, 15), api.Spec{Lines: 1, Spread: 5}, []int{2}, 5},
		{"a spread of nothing", flock(10, 10, 15), api.Spec{Lines: 2}, []int{2, 1}, 0},
		{"a mass that suffices", flock(10, 11, 12, 13), api.Spec{Lines: 4, Least: 2, Spread: 10}, []int{2, 2}, 2},
		{"a mass for one line only", flock(10, 11, 12, 13), api.Spec{Lines: 4, Least: 3, Spread: 10}, []int{4}, 4},
		{"one fleece", flock(10000), api.Spec{Lines: 1, Least: 1}, []int{1}, 0},
	} {
		lines, cost, e := classing.Lines(c.fleeces, c.spec)
		if e != api.OK || cost != c.cost || !slices.Equal(lengthsOf(lines), c.lengths) {
			t.Error(c.what, lines, cost, e)
		}
		cost, e = classing.Cost(c.fleeces, c.spec, c.lengths)
		same(t, c.what, cost, e, c.cost, api.OK)
	}
	for _, c := range []struct {
		what    string
		fleeces []api.Fleece
		spec    api.Spec
	}{
		{"too wide", flock(10, 16), api.Spec{Lines: 1, Spread: 5}},
		{"too little", flock(10, 11), api.Spec{Lines: 2, Least: 3, Spread: 5}},
		{"too many kinds", []api.Fleece{fleece(fine, 10, 1), fleece(coarse, 10, 1)}, api.Spec{Lines: 1, Spread: 5}},
		{"too little of one kind", []api.Fleece{fleece(fine, 10, 9), fleece(coarse, 10, 1)}, api.Spec{Lines: 2, Least: 2, Spread: 5}},
	} {
		if lines, cost, e := classing.Lines(c.fleeces, c.spec); e != api.ErrPlan || cost != 0 || len(lines) > 0 {
			t.Error(c.what, lines, cost, e)
		}
	}
}

// P3.5: what is said of each line, by hand: kinds as bytes, then microns, then indexes.
func TestEachLine(t *testing.T) {
	fleeces := []api.Fleece{
		fleece(high, 2000, 5), fleece(coarse, 2100, 10), fleece(fine, 2200, 4), fleece(coarse, 1900, 10), fleece(fine, 2200, 3), fleece(fine, 1800, 1), fleece(coarse, 1900, 30),
	}
	want := []api.Line{
		{Kind: fine, Fleeces: []int{5, 2, 4}, Grams: 8, Centre: 2200, Cost: 400},
		{Kind: coarse, Fleeces: []int{3, 6, 1}, Grams: 50, Centre: 1900, Cost: 2000},
		{Kind: high, Fleeces: []int{0}, Grams: 5, Centre: 2000},
	}
	spec := api.Spec{Lines: 3, Spread: 10000}
	for range 2 {
		lines, cost, e := classing.Lines(fleeces, spec)
		if e != api.OK || cost != 2400 || !slices.EqualFunc(lines, want, sameLine) {
			t.Fatal(lines, cost, e)
		}
		// Rule 4: the indexes are new memory each time, and no line shares
		// memory with the next.
		clear(append(lines[0].Fleeces, 9, 9, 9))
		if !slices.EqualFunc(lines[1:], want[1:], sameLine) {
			t.Fatal(lines)
		}
	}
}

// P3.5: the centre is the first fleece at which half of the mass is reached.
func TestCentre(t *testing.T) {
	for _, c := range []struct {
		grams        []int
		centre, cost int
	}{
		{[]int{1, 1}, 10, 10},
		{[]int{1, 2}, 20, 10},
		{[]int{2, 1, 1}, 10, 30},
		{[]int{2, 1, 2}, 20, 40},
		{[]int{1, 1, 2}, 20, 30},
		{[]int{1, 1, 3}, 30, 30},
		{[]int{api.MaxMass, api.MaxMass, 1}, 20, 10*api.MaxMass + 10},
		{[]int{api.MaxMass, 1, api.MaxMass}, 20, 20 * api.MaxMass},
	} {
		fleeces := flock(10, 20, 30)[:len(c.grams)]
		sum := 0
		for i, g := range c.grams {
			fleeces[i].Grams = g
			sum += g
		}
		lines, cost, e := classing.Lines(fleeces, api.Spec{Lines: 1, Least: min(sum, api.MaxMass), Spread: 20})
		if e != api.OK || len(lines) != 1 || cost != c.cost || lines[0].Cost != c.cost || lines[0].Centre != c.centre || lines[0].Grams != sum {
			t.Error(c, lines, cost, e)
		}
	}
}

// P3.5 to P3.8: no fleeces.
func TestNoFleeces(t *testing.T) {
	for _, spec := range []api.Spec{{Lines: 1}, wide, {Lines: 3, Least: api.MaxMass}} {
		lines, cost, e := classing.Lines(nil, spec)
		if len(lines) > 0 || cost != 0 || e != api.OK {
			t.Error(lines, cost, e)
		}
		curve, e := classing.Curve([]api.Fleece{}, spec)
		if !slices.Equal(curve, slices.Repeat([]int{-1}, spec.Lines)) || e != api.OK {
			t.Error(curve, e)
		}
		cost, e = classing.Cost(nil, spec, nil)
		same(t, "cost", cost, e, 0, api.OK)
		for _, p := range prices {
			cost, e = classing.Price(nil, spec, p)
			same(t, p, cost, e, 0, api.OK)
		}
		for _, lengths := range [][]int{{0}, {1}, {-1}} {
			cost, e = classing.Cost(nil, spec, lengths)
			same(t, lengths, cost, e, 0, api.ErrArg)
		}
	}
}

// bigFlock is as many fleeces as there may be.
func bigFlock(d *rand.Rand, some, microns, grams int) []api.Fleece {
	list := make([]api.Fleece, api.MaxFleeces)
	for i := range list {
		list[i] = fleece(kinds[d.IntN(some)], 1+d.IntN(microns), 1+d.IntN(grams))
	}
	return list
}

// forward is the least costs of plans with exactly 0, 1 and so on lines, and
// the least with a price for each line, found from the first fleece on.
func forward(fleeces []api.Fleece, spec api.Spec, price int) ([]int, int) {
	n, order := len(fleeces), inOrder(fleeces)
	const far = math.MaxInt / 4
	best := make([][]int, n+1)
	priced := slices.Repeat([]int{far}, n+1)
	for j := range best {
		best[j] = slices.Repeat([]int{far}, n+1)
	}
	best[0][0], priced[0] = 0, 0
	for j := 1; j <= n; j++ {
		for i := range j {
			l, ok := lineOf(fleeces, spec, order[i:j])
			if !ok {
				continue
			}
			priced[j] = min(priced[j], priced[i]+l.Cost+price)
			for k := range j {
				best[j][k+1] = min(best[j][k+1], best[i][k]+l.Cost)
			}
		}
	}
	for k := range best[n] {
		if best[n][k] >= far {
			best[n][k] = -1
		}
	}
	return best[n], priced[n]
}

// P3.5 to P3.9: flocks of the most fleeces.
func TestPlansOfBigFlocks(t *testing.T) {
	for seed := range uint64(24) {
		d := dice(seed)
		size := [][2]int{{30, 5}, {400, 400}, {api.MaxMicron, api.MaxMass}}[d.IntN(3)]
		fleeces := bigFlock(d, 1+d.IntN(5), size[0], size[1])
		spec := api.Spec{Lines: 5 + d.IntN(12), Least: d.IntN(size[1] + 1), Spread: size[0]/4 + d.IntN(size[0])}
		price := d.IntN(size[0] * size[1])
		curve, priced := forward(fleeces, spec, price)
		got, e := classing.Curve(fleeces, spec)
		if e != api.OK || !slices.Equal(got, curve[1:spec.Lines+1]) {
			t.Fatal(seed, got, e, curve)
		}
		cost, e := classing.Price(fleeces, spec, price)
		if priced < math.MaxInt/4 {
			same(t, seed, cost, e, priced, api.OK)
		} else {
			same(t, seed, cost, e, 0, api.ErrPlan)
		}
		lines, least, e := classing.Lines(fleeces, spec)
		if e != api.OK {
			if e != api.ErrPlan || slices.Max(got) >= 0 {
				t.Fatal(seed, e, got)
			}
			continue
		}
		again, e := classing.Cost(fleeces, spec, lengthsOf(lines))
		same(t, seed, again, e, least, api.OK)
		want, _, ok := planOf(fleeces, spec, lengthsOf(lines))
		if !ok || !slices.EqualFunc(lines, want, sameLine) || least+price*spec.Lines < cost {
			t.Fatal(seed, lines)
		}
		k := slices.Index(got, least)
		if slices.ContainsFunc(got, func(n int) bool { return n >= 0 && n < least }) || k != len(lines)-1 {
			t.Fatal(seed, least, len(lines), got)
		}
	}
}

// P3.5 and rule 5: the largest masses and distances.
func TestLargest(t *testing.T) {
	var fleeces []api.Fleece
	for i := range 128 {
		fleeces = append(fleeces, fleece(fine, 1+i%2*(api.MaxMicron-1), api.MaxMass))
	}
	spec := api.Spec{Lines: 1, Least: api.MaxMass, Spread: api.MaxMicron}
	want := 64 * api.MaxMass * (api.MaxMicron - 1)
	lines, cost, e := classing.Lines(fleeces, spec)
	if e != api.OK || cost != want || len(lines) != 1 || lines[0].Grams != 128*api.MaxMass || lines[0].Centre != 1 {
		t.Error(lines, cost, e)
	}
	cost, e = classing.Price(fleeces, spec, api.MaxAmount)
	same(t, "price", cost, e, min(want+api.MaxAmount, 2*api.MaxAmount), api.OK)
	ones := slices.Repeat([]int{1}, 128)
	cost, e = classing.Cost(fleeces, spec, ones)
	same(t, "too many lines", cost, e, 0, api.ErrPlan)
	spec.Spread = 0
	for i := range fleeces {
		fleeces[i].Micron = 1 + i
	}
	cost, e = classing.Price(fleeces, spec, api.MaxAmount)
	same(t, "128 lines", cost, e, 128*api.MaxAmount, api.OK)
	if _, _, e := classing.Lines(fleeces, spec); e != api.ErrPlan {
		t.Error(e)
	}
}

// P3.9: at no price is Price more than the cost of the cheapest plan and of as
// many lines as it may have.
func TestPriceIsBelow(t *testing.T) {
	for seed := range uint64(200) {
		d := dice(seed)
		fleeces, spec := anyFlock(d, 30), anySpec(d)
		_, cost, e := classing.Lines(fleeces, spec)
		if e != api.OK {
			continue
		}
		for _, p := range prices {
			if price, e := classing.Price(fleeces, spec, p); e != api.OK || cost+p*spec.Lines < price {
				t.Error(fleeces, spec, p, price, cost)
			}
		}
	}
}

// planErrors is what Lines, Curve, Cost and Price answer, in this order.
type planErrors [4]api.Errno

// alike is four times the same error.
func alike(e api.Errno) planErrors { return planErrors{e, e, e, e} }

// refused calls all four functions, fails the test if one answers more than an
// error, and returns the errors.
func refused(t *testing.T, fleeces []api.Fleece, spec api.Spec, lengths []int, price int) planErrors {
	t.Helper()
	lines, n, e1 := classing.Lines(fleeces, spec)
	curve, e2 := classing.Curve(fleeces, spec)
	cost, e3 := classing.Cost(fleeces, spec, lengths)
	sum, e4 := classing.Price(fleeces, spec, price)
	if e1 != api.OK && (len(lines) > 0 || n != 0) || e2 != api.OK && len(curve) > 0 || e3 != api.OK && cost != 0 || e4 != api.OK && sum != 0 {
		t.Error("an error with a result", fleeces, spec, lengths, price)
	}
	return planErrors{e1, e2, e3, e4}
}

// P3.5 to P3.8: which error, and which first.
func TestPlanErrors(t *testing.T) {
	good := flock(10, 20)
	many := slices.Repeat(good, 65)[:129]
	badFleeces := slices.Repeat([]api.Fleece{{}}, 129)
	tooMany := slices.Repeat([]int{0}, 129)
	for _, c := range []struct {
		fleeces []api.Fleece
		spec    api.Spec
		lengths []int
		price   int
		want    planErrors
	}{
		{good, wide, []int{2}, 1, alike(api.OK)},
		{many, wide, []int{129}, 1, alike(api.ErrLimit)},
		{badFleeces, api.Spec{}, nil, -1, alike(api.ErrLimit)},
		{many[:128], wide, []int{128}, 1, alike(api.OK)},
		{good, wide, tooMany, -1, planErrors{0, 0, api.ErrLimit, api.ErrArg}},
		{good, wide, tooMany[:128], api.MaxAmount + 1, planErrors{0, 0, api.ErrArg, api.ErrArg}},
		{good, wide, slices.Repeat([]int{1}, 128), 0, planErrors{0, 0, api.ErrArg, 0}},
		{good, api.Spec{}, tooMany, 1, alike(api.ErrArg)},
		{flock(0), wide, tooMany, 1, alike(api.ErrArg)},
		{nil, api.Spec{}, nil, 0, alike(api.ErrArg)},
		{good, api.Spec{Lines: 1}, []int{2}, 1, planErrors{api.ErrPlan, 0, api.ErrPlan, 0}},
		{good, api.Spec{Lines: 2, Least: 3}, []int{2}, 1, planErrors{api.ErrPlan, 0, api.ErrPlan, api.ErrPlan}},
		{good, api.Spec{Lines: 2, Least: 3}, []int{3}, -1, planErrors{api.ErrPlan, 0, api.ErrArg, api.ErrArg}},
		{good, api.Spec{Lines: 1, Spread: 10}, []int{1, 1}, 1, planErrors{0, 0, api.ErrPlan, 0}},
		{good, api.Spec{Lines: 2, Spread: 10}, nil, 1, planErrors{0, 0, api.ErrArg, 0}},
	} {
		if got := refused(t, c.fleeces, c.spec, c.lengths, c.price); got != c.want {
			t.Error(c, got)
		}
	}
}

// P3.5 to P3.8: every number at and round its limits.
func TestPlanLimits(t *testing.T) {
	good, one, two := flock(10, 20), []int{1}, []int{2}
	heavy := []api.Fleece{fleece(fine, 1, api.MaxMass), fleece(fine, api.MaxMicron, api.MaxMass)}
	for _, n := range hostile {
		for i, c := range []struct {
			got, want planErrors
		}{
			{refused(t, good, api.Spec{Lines: n, Spread: 10}, two, 1), alike(from(1, n, api.MaxLines))},
			{refused(t, heavy, api.Spec{Lines: 1, Least: n, Spread: api.MaxMicron}, two, 1), alike(from(0, n, api.MaxMass))},
			{refused(t, flock(5, 5), api.Spec{Lines: 1, Spread: n}, two, 1), alike(from(0, n, api.MaxMicron))},
			{refused(t, []api.Fleece{fleece(fine, n, 1)}, wide, one, 1), alike(from(1, n, api.MaxMicron))},
			{refused(t, []api.Fleece{fleece(fine, 1, n)}, wide, one, 1), alike(from(1, n, api.MaxMass))},
			{refused(t, []api.Fleece{good[0], fleece(fine, 1, n)}, wide, two, 1), alike(from(1, n, api.MaxMass))},
			{refused(t, good, wide, two, n), planErrors{3: from(0, n, api.MaxAmount)}},
			{refused(t, good, wide, []int{n}, 1), planErrors{2: from(2, n, 2)}},
			{refused(t, good, wide, []int{n, 1}, 1), planErrors{2: from(1, n, 1)}},
			{refused(t, good, wide, []int{1, n}, 1), planErrors{2: from(1, n, 1)}},
			{refused(t, good, wide, []int{n, -n}, 1), planErrors{2: api.ErrArg}},
			{refused(t, good, wide, []int{n, n, n, n}, 1), planErrors{2: api.ErrArg}},
			{refused(t, good, wide, []int{1, 1, n}, 1), planErrors{2: api.ErrArg}},
		} {
			if c.got != c.want {
				t.Error(n, i, c.got, c.want)
			}
		}
	}
}

// from is the error of a number n that must be from low to high.
func from(low, n, high int) api.Errno {
	if n < low || n > high {
		return api.ErrArg
	}
	return api.OK
}

// Rule 4: no function changes what it is passed.
func TestArgumentsStay(t *testing.T) {
	d := dice(9)
	fleeces := bigFlock(d, 3, 100, 9)
	lengths := slices.Repeat([]int{8}, 16)
	fleecesWere, lengthsWere := slices.Clone(fleeces), slices.Clone(lengths)
	refused(t, fleeces, wide, lengths, 7)
	if !slices.Equal(fleeces, fleecesWere) || !slices.Equal(lengths, lengthsWere) {
		t.Error("an argument has changed")
	}
}
