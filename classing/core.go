// Package classing is layer 3, how wool is measured and classed: see
// shared/doc/03-classing.md.
package classing

import (
	"cmp"
	"slices"

	"merino/api"
	"merino/num"
)

// lastDecision is the number of subsamples after which a test waits no more.
const lastDecision = 8

// Test is a core test, which subsamples are fed to until enough of them agree.
type Test struct {
	isMade bool // what tells a test without subsamples from the zero Test
	tol    int
	fed    int
	subs   [lastDecision]api.Sub
	state  int
	used   []int
}

// Base returns the share of s that is wool.
func Base(s api.Sub) (api.Frac, api.Errno) {
	if !isSub(s) {
		return api.Frac{}, api.ErrArg
	}
	return num.Make(wool(s), s.Raw)
}

// NewTest returns a test without subsamples, which agree if they differ by at
// most tol ten-thousandths.
func NewTest(tol int) (*Test, api.Errno) {
	if tol < 0 || tol > tolUnit {
		return nil, api.ErrArg
	}
	return &Test{isMade: true, tol: tol}, api.OK
}

// Feed gives the test its next subsample.
func (t *Test) Feed(s api.Sub) api.Errno {
	if !t.isTest() {
		return api.ErrNil
	}
	if t.state != api.TestWait {
		return api.ErrState
	}
	if !isSub(s) {
		return api.ErrArg
	}
	t.subs[t.fed] = s
	t.fed++
	if t.fed%2 == 0 {
		t.decide()
	}
	return api.OK
}

// State returns whether the test waits, is accepted, or is void.
func (t *Test) State() int {
	if !t.isTest() {
		return api.TestVoid
	}
	return t.state
}

// Need returns how many subsamples the test waits for before it decides.
func (t *Test) Need() int {
	if !t.isTest() || t.state != api.TestWait {
		return 0
	}
	return 2 - t.fed%2
}

// Result returns what an accepted test found.
func (t *Test) Result() (api.Result, api.Errno) {
	if !t.isTest() {
		return api.Result{}, api.ErrNil
	}
	if t.state != api.TestGood {
		return api.Result{}, api.ErrState
	}
	r := api.Result{Used: slices.Clone(t.used)}
	for _, i := range t.used {
		r.Wool += wool(t.subs[i])
		r.Veg += t.subs[i].Veg
		r.Raw += t.subs[i].Raw
	}
	return r, api.OK
}

// isTest reports whether NewTest made t.
func (t *Test) isTest() bool { return t != nil && t.isMade }

// decide accepts the test if more than half of the subsamples agree.
func (t *Test) decide() {
	order := t.byBase()
	size := t.fed/2 + 1
	best := order[:size]
	for i := 1; i+size <= t.fed; i++ {
		window := order[i : i+size]
		if t.spread(window).compare(t.spread(best)) < 0 {
			best = window
		}
	}
	if t.spread(best).compare(ratio{t.tol, tolUnit}) <= 0 {
		t.state, t.used = api.TestGood, best
		slices.Sort(t.used)
	} else if t.fed == lastDecision {
		t.state = api.TestVoid
	}
}

// byBase returns the numbers of the subsamples by their bases; equal ones
// stay in the order of their numbers.
func (t *Test) byBase() []int {
	order := make([]int, t.fed)
	for i := range order {
		order[i] = i
	}
	slices.SortStableFunc(order, func(i, j int) int {
		return base(t.subs[i]).compare(base(t.subs[j]))
	})
	return order
}

// spread returns how much the bases of a window differ.
func (t *Test) spread(window []int) ratio {
	first, last := base(t.subs[window[0]]), base(t.subs[window[len(window)-1]])
	return ratio{last.over*first.under - first.over*last.under, last.under * first.under}
}

// tolUnit is what a tolerance of 1 in 1 is.
const tolUnit = 10000

// ratio is the number over/under. The difference of two bases may have a
// denominator above the limit of a fraction of package num.
type ratio struct{ over, under int }

// compare returns -1, 0 or 1 as r is less than, equal to or greater than s;
// as no number in a ratio is above 10^8, no product is above 10^16.
func (r ratio) compare(s ratio) int { return cmp.Compare(r.over*s.under, s.over*r.under) }

// base is the base of a valid subsample.
func base(s api.Sub) ratio { return ratio{wool(s), s.Raw} }

// wool is the mass of wool in a valid subsample.
func wool(s api.Sub) int { return s.Dry - s.Ash - s.Grease - s.Veg }

// isSub reports whether s is valid. What is left of Dry is compared in place
// of the sum, which might overflow.
func isSub(s api.Sub) bool {
	if s.Raw < 1 || s.Raw > api.MaxSub || s.Dry < 0 || s.Dry > s.Raw {
		return false
	}
	left := s.Dry
	for _, part := range [3]int{s.Ash, s.Grease, s.Veg} {
		if part < 0 || part > left {
			return false
		}
		left -= part
	}
	return true
}
