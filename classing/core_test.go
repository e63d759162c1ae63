package classing_test

import (
	"math"
	"math/big"
	"slices"
	"testing"

	"merino/api"
	"merino/classing"
)

// P3.1 and the first example.
func TestBase(t *testing.T) {
	for _, c := range []struct {
		sub  api.Sub
		want api.Frac
	}{
		{api.Sub{Raw: 1000, Dry: 650, Ash: 10, Grease: 15, Veg: 25}, api.Frac{Num: 3, Den: 5}},
		{api.Sub{Raw: 1}, api.Frac{Num: 0, Den: 1}},
		{api.Sub{Raw: 1, Dry: 1}, api.Frac{Num: 1, Den: 1}},
		{api.Sub{Raw: 1, Dry: 1, Ash: 1}, api.Frac{Num: 0, Den: 1}},
		{api.Sub{Raw: 10000, Dry: 10000, Ash: 1, Grease: 2, Veg: 4}, api.Frac{Num: 9993, Den: 10000}},
		{api.Sub{Raw: 10000, Dry: 10000}, api.Frac{Num: 1, Den: 1}},
		{api.Sub{Raw: 10000, Dry: 9, Ash: 3, Grease: 3, Veg: 3}, api.Frac{Num: 0, Den: 1}},
		{api.Sub{Raw: 9999, Dry: 10, Grease: 10}, api.Frac{Num: 0, Den: 1}},
		{api.Sub{Raw: 9999, Dry: 10, Veg: 8}, api.Frac{Num: 2, Den: 9999}},
	} {
		f, e := classing.Base(c.sub)
		same(t, c.sub, f, e, c.want, api.OK)
	}
	for _, s := range notSubs {
		f, e := classing.Base(s)
		same(t, s, f, e, api.Frac{}, api.ErrArg)
	}
}

// P3.2: which tolerances a test is made with.
func TestNewTest(t *testing.T) {
	for _, tol := range hostile {
		c, e := classing.NewTest(tol)
		if good := tol >= 0 && tol <= 10000; good != (e == api.OK) || good != (c != nil) || !good && e != api.ErrArg {
			t.Error(tol, c, e)
		}
	}
	c := newTest(t, 0)
	if _, e := c.Result(); c.State() != api.TestWait || c.Need() != 2 || e != api.ErrState {
		t.Error(c.State(), c.Need(), e)
	}
}

// P3.2 and rule 3: nil and zero tests.
func TestNoTest(t *testing.T) {
	for _, c := range []*classing.Test{nil, {}, new(classing.Test)} {
		for _, s := range append([]api.Sub{share(1, 2)}, notSubs...) {
			if e := c.Feed(s); e != api.ErrNil {
				t.Error(s, e)
			}
		}
		r, e := c.Result()
		if e != api.ErrNil || r.Used != nil || r.Raw != 0 || c.State() != api.TestVoid || c.Need() != 0 {
			t.Error(r, e, c.State(), c.Need())
		}
	}
}

// base is the base of a subsample by the words of the chapter.
func base(s api.Sub) *big.Rat { return rat(s.Dry-s.Ash-s.Grease-s.Veg, s.Raw) }

// spread is that of a window by the words of the chapter.
func spread(subs []api.Sub, window []int) *big.Rat {
	return minus(base(subs[window[len(window)-1]]), base(subs[window[0]]))
}

// decided is the state of a test that was fed these subsamples and waited
// until the last, and the window that it found.
func decided(tol int, subs []api.Sub) (int, []int) {
	if len(subs) == 0 || len(subs)%2 == 1 {
		return api.TestWait, nil
	}
	var order []int
	for i := range subs {
		at := slices.IndexFunc(order, func(j int) bool { return base(subs[j]).Cmp(base(subs[i])) > 0 })
		if at < 0 {
			at = len(order)
		}
		order = slices.Insert(order, at, i)
	}
	var best []int
	for from, to := 0, len(subs)/2+1; to <= len(subs); from, to = from+1, to+1 {
		if best == nil || spread(subs, order[from:to]).Cmp(spread(subs, best)) < 0 {
			best = order[from:to]
		}
	}
	if spread(subs, best).Cmp(rat(tol, 10000)) <= 0 {
		slices.Sort(best)
		return api.TestGood, best
	}
	if len(subs) == 8 {
		return api.TestVoid, nil
	}
	return api.TestWait, nil
}

// looks fails the test unless c shows this state after these subsamples.
func looks(t *testing.T, c *classing.Test, state int, subs []api.Sub, used []int) {
	t.Helper()
	need := 0
	if state == api.TestWait {
		need = 2 - len(subs)%2
	}
	if c.State() != state || c.Need() != need {
		t.Fatalf("%v: state %d, need %d; want %d, %d", subs, c.State(), c.Need(), state, need)
	}
	r, e := c.Result()
	if state != api.TestGood {
		if e != api.ErrState || len(r.Used) > 0 || r.Wool != 0 || r.Veg != 0 || r.Raw != 0 {
			t.Fatal(subs, r, e)
		}
		return
	}
	var want api.Result
	for _, i := range used {
		s := subs[i]
		want.Wool += s.Dry - s.Ash - s.Grease - s.Veg
		want.Veg += s.Veg
		want.Raw += s.Raw
	}
	if e != api.OK || r.Wool != want.Wool || r.Veg != want.Veg || r.Raw != want.Raw || !slices.Equal(r.Used, used) {
		t.Fatalf("%v: %v, error %d; want %v of %v", subs, r, e, want, used)
	}
}

// fed feeds subsamples to a test until it waits no more, compares it after
// each with the words of the chapter, and returns how it ended and after how many.
func fed(t *testing.T, tol int, subs []api.Sub) (state, n int) {
	t.Helper()
	c := newTest(t, tol)
	var used []int
	for n < len(subs) && state == api.TestWait {
		if e := c.Feed(subs[n]); e != api.OK {
			t.Fatal(subs, n, e)
		}
		n++
		state, used = decided(tol, subs[:n])
		looks(t, c, state, subs[:n], used)
		for _, bad := range notSubs {
			if e := c.Feed(bad); state == api.TestWait && e != api.ErrArg || state != api.TestWait && e != api.ErrState {
				t.Fatal(subs, bad, e)
			}
		}
		looks(t, c, state, subs[:n], used)
	}
	if state != api.TestWait {
		for _, s := range subs {
			if e := c.Feed(s); e != api.ErrState {
				t.Fatal(subs, s, e)
			}
		}
		looks(t, c, state, subs[:n], used)
	}
	if state == api.TestGood {
		agree(t, tol, subs[:n], used)
	}
	return state, n
}

// agree fails the test unless P3.10 holds for an accepted test.
func agree(t *testing.T, tol int, subs []api.Sub, used []int) {
	t.Helper()
	if 2*len(used) <= len(subs) {
		t.Error("half are not used", subs, used)
	}
	for _, i := range used {
		for _, j := range used {
			if minus(base(subs[i]), base(subs[j])).Cmp(rat(tol, 10000)) > 0 {
				t.Error("two do not agree", subs, i, j)
			}
		}
	}
}

// P3.2 and the first example: tests that end at each decision.
func TestDecisions(t *testing.T) {
	for _, c := range []struct {
		tol      int
		subs     []api.Sub
		state, n int
	}{
		{100, []api.Sub{share(600, 1000), share(1, 2), share(51, 100), share(1, 2)}, api.TestGood, 4},
		// Exactly the tolerance, and the least bit above it.
		{100, []api.Sub{share(3, 5), share(59, 100)}, api.TestGood, 2},
		{100, []api.Sub{share(59, 100), share(3, 5)}, api.TestGood, 2},
		{99, []api.Sub{share(3, 5), share(59, 100)}, api.TestWait, 2},
		{0, []api.Sub{share(1, 2), share(5000, 10000)}, api.TestGood, 2},
		{0, []api.Sub{share(5000, 10000), share(5000, 9999)}, api.TestWait, 2},
		{1, []api.Sub{share(9998, 9999), share(9999, 10000)}, api.TestGood, 2},
		{0, []api.Sub{share(9998, 9999), share(9999, 10000)}, api.TestWait, 2},
		{9999, []api.Sub{share(0, 1), share(9999, 10000)}, api.TestGood, 2},
		{9999, []api.Sub{share(1, 1), share(0, 1)}, api.TestWait, 2},
		{10000, []api.Sub{share(1, 1), share(0, 1)}, api.TestGood, 2},
		{100, []api.Sub{share(1, 2)}, api.TestWait, 1},
		// Windows of the same spread: the first in the order of bases counts.
		{100, []api.Sub{share(60, 100), share(20, 100), share(40, 100), share(41, 100), share(61, 100), share(21, 100), share(1, 100), share(99, 100)}, api.TestVoid, 8},
		{500, []api.Sub{share(60, 100), share(40, 100), share(55, 100), share(45, 100)}, api.TestWait, 4},
		{500, []api.Sub{share(50, 100), share(44, 100), share(54, 100), share(49, 100)}, api.TestGood, 4},
		{1000, []api.Sub{share(45, 100), share(30, 100), share(40, 100), share(35, 100)}, api.TestGood, 4},
		// Equal ones stay in the order of their numbers.
		{0, []api.Sub{share(1, 4), share(1, 2), share(2, 4), share(50, 100)}, api.TestGood, 4},
		{0, []api.Sub{share(9, 10), share(1, 10), share(1, 2), share(1, 3), share(2, 4), share(3, 6)}, api.TestWait, 6},
		{0, []api.Sub{share(1, 10), share(1, 2), share(2, 4), share(1, 3), share(3, 6), share(4, 8)}, api.TestGood, 6},
		// Four of six agree, five of eight agree, four of eight do not suffice.
		{100, []api.Sub{share(1, 10), share(50, 100), share(9, 10), share(51, 100), share(50, 100), share(51, 100)}, api.TestGood, 6},
		{100, []api.Sub{share(1, 10), share(50, 100), share(9, 10), share(51, 100), share(2, 10), share(50, 100), share(51, 100), share(505, 1000)}, api.TestGood, 8},
		{100, []api.Sub{share(1, 10), share(50, 100), share(9, 10), share(51, 100), share(2, 10), share(50, 100), share(8, 10), share(51, 100)}, api.TestVoid, 8},
	} {
		if state, n := fed(t, c.tol, c.subs); state != c.state || n != c.n {
			t.Errorf("%v: state %d after %d, want %d after %d", c.subs, state, n, c.state, c.n)
		}
	}
}

// P3.2: what an accepted test found, by hand.
func TestResult(t *testing.T) {
	subs := []api.Sub{
		share(600, 1000),
		{Raw: 100, Dry: 65, Ash: 5, Grease: 5, Veg: 5},
		{Raw: 200, Dry: 110, Veg: 8},
		{Raw: 10, Dry: 6, Veg: 1},
	}
	c := newTest(t, 100)
	for _, s := range subs {
		if e := c.Feed(s); e != api.OK {
			t.Fatal(e)
		}
	}
	want := api.Result{Wool: 50 + 102 + 5, Veg: 14, Raw: 310, Used: []int{1, 2, 3}}
	for range 2 {
		r, e := c.Result()
		if e != api.OK || r.Wool != want.Wool || r.Veg != want.Veg || r.Raw != want.Raw || !slices.Equal(r.Used, want.Used) {
			t.Fatal(r, e)
		}
		// Rule 4: the numbers are new memory each time.
		clear(r.Used)
	}
}

// P3.2: of windows of one spread the first in the order counts, and of equal
// bases the lower numbers come first.
func TestFirstWindow(t *testing.T) {
	for _, c := range []struct {
		tol  int
		subs []api.Sub
		used []int
	}{
		{1000, []api.Sub{share(45, 100), share(30, 100), share(40, 100), share(35, 100)}, []int{1, 2, 3}},
		{0, []api.Sub{share(1, 2), share(1, 4), share(2, 4), share(50, 100)}, []int{0, 2, 3}},
		{5000, []api.Sub{share(1, 100), share(99, 100), share(50, 100), share(51, 100)}, []int{1, 2, 3}},
		{0, []api.Sub{share(1, 10), share(1, 2), share(2, 4), share(1, 3), share(3, 6), share(4, 8)}, []int{1, 2, 4, 5}},
		{100, []api.Sub{share(1, 10), share(50, 100), share(9, 10), share(51, 100), share(2, 10), share(50, 100), share(51, 100), share(505, 1000)}, []int{1, 3, 5, 6, 7}},
		// Five equal ones of which one window needs four.
		{0, []api.Sub{share(0, 9), share(1, 2), share(1, 1), share(2, 4), share(1, 3), share(3, 6), share(4, 8), share(5, 10)}, []int{1, 3, 5, 6, 7}},
	} {
		test := newTest(t, c.tol)
		for _, s := range c.subs {
			test.Feed(s)
		}
		if r, e := test.Result(); e != api.OK || !slices.Equal(r.Used, c.used) {
			t.Error(c.subs, r, e, c.used)
		}
	}
}

// P3.2 and P3.10: many tests, by the words of the chapter.
func TestManyTests(t *testing.T) {
	ends := map[[2]int]int{}
	for seed := range uint64(3000) {
		d := dice(seed)
		most := []int{2, 3, 6, 12, 100, 10000}[d.IntN(6)]
		subs := make([]api.Sub, 8)
		for i := range subs {
			raw := 1 + d.IntN(most)
			dry := raw - d.IntN(raw/2+1)
			ash := d.IntN(dry + 1)
			grease := d.IntN(dry - ash + 1)
			veg := d.IntN(dry - ash - grease + 1)
			subs[i] = api.Sub{Raw: raw, Dry: dry, Ash: ash, Grease: grease, Veg: veg}
			if d.IntN(2) == 0 {
				subs[i].Ash, subs[i].Grease, subs[i].Veg = 0, 0, min(veg, 1)
			}
		}
		tol := []int{0, 1, 10, 100, 500, 1000, 2500, 5000}[d.IntN(8)]
		state, n := fed(t, tol, subs)
		ends[[2]int{state, n}]++
		first := minus(base(subs[0]), base(subs[1]))
		if close := first.Abs(first).Cmp(rat(tol, 10000)) <= 0; close != (state == api.TestGood && n == 2) {
			t.Error("the first decision", subs, tol, state, n)
		}
	}
	for _, end := range [][2]int{{api.TestGood, 2}, {api.TestGood, 4}, {api.TestGood, 6}, {api.TestGood, 8}, {api.TestVoid, 8}} {
		if ends[end] < 20 {
			t.Error("too few tests end so", end, ends[end])
		}
	}
}

// P2 of the document: tests do not depend on one another.
func TestTwoTests(t *testing.T) {
	a, b := newTest(t, 0), newTest(t, 0)
	for i := range 4 {
		a.Feed(share(1, i+2))
		b.Feed(share(i, 8))
	}
	c, d := newTest(t, 0), newTest(t, 0)
	c.Feed(share(1, 2))
	d.Feed(share(1, 3))
	c.Feed(share(1, 2))
	d.Feed(share(1, 4))
	if a.State() != api.TestWait || b.State() != api.TestWait || c.State() != api.TestGood || d.State() != api.TestWait {
		t.Error(a.State(), b.State(), c.State(), d.State())
	}
	if e := c.Feed(api.Sub{Raw: math.MinInt}); e != api.ErrState {
		t.Error(e)
	}
}
