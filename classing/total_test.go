package classing_test

import (
	"fmt"
	"slices"
	"testing"

	"merino/api"
	"merino/classing"
)

// answers calls every function of the package with arguments made of a, b and
// c, and returns what they answer.
func answers(a, b, c int) []string {
	var all []string
	say := func(results ...any) { all = append(all, fmt.Sprint(results...)) }
	answer := func(r any, e api.Errno) { say(r, e) }
	sub := api.Sub{Raw: a, Dry: b, Ash: c, Grease: a, Veg: b}
	answer(classing.Base(sub))
	answer(classing.Base(api.Sub{Raw: a, Dry: b, Veg: c}))
	answer(classing.Yield(a, b, c, a))
	answer(classing.Yield(2, a, b, c))
	test, e := classing.NewTest(a)
	say(test != nil, e)
	for _, t := range []*classing.Test{nil, {}, test} {
		for i := range 9 {
			say(t.Feed(api.Sub{Raw: a, Dry: b, Veg: i}), t.Feed(share(i, c)), t.State(), t.Need())
			answer(t.Result())
		}
	}
	h, g := with(with(fibres(), 3, a), 7, b), with(fibres(1), 63, c)
	f := api.Frac{Num: b, Den: c}
	for _, h := range []api.Hist{h, g, {}} {
		answer(classing.Total(h))
		answer(classing.Merge(h, g))
		answer(classing.Micron(h))
		answer(classing.Variance(h))
		answer(classing.Quantile(h, f))
		answer(classing.Share(h, a))
	}
	spec := api.Spec{Lines: a, Least: b, Spread: c}
	for _, fleeces := range [][]api.Fleece{nil, flock(a, b, c), flock(1, 2, 3, 3), {fleece(fine, c, a), fleece(coarse, 1, b)}} {
		for _, s := range []api.Spec{spec, wide} {
			lines, cost, e := classing.Lines(fleeces, s)
			say(lines, cost, e)
			answer(classing.Curve(fleeces, s))
			answer(classing.Cost(fleeces, s, []int{a, b, c}))
			answer(classing.Price(fleeces, s, c))
		}
	}
	return all
}

// P1 and P2 of the document: every call ends without a panic, whatever its
// arguments, and answers the same when it is made again.
func TestEveryCallAnswers(t *testing.T) {
	for i, a := range hostile {
		for j, b := range hostile {
			c := hostile[(i+5*j)%len(hostile)]
			if first := answers(a, b, c); !slices.Equal(first, answers(a, b, c)) {
				t.Error(a, b, c, first)
			}
		}
	}
}
