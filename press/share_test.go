package press_test

import (
	"fmt"
	"math/rand/v2"
	"slices"
	"testing"

	"merino/api"
	"merino/press"
)

// The chapter's third example, and what no example shows (P8.4, P8.5).
func TestShare(t *testing.T) {
	most := api.MaxMinutes
	for _, c := range []struct {
		times       []int
		presses     int
		share       []int
		least       int
		longest     []int
		longestEnds int
	}{
		{nil, 1, nil, 0, nil, 0},
		{nil, 4, nil, 0, nil, 0},
		{[]int{3, 3, 2, 2, 2}, 2, []int{0, 0, 1, 1, 1}, 6, []int{0, 1, 0, 1, 0}, 7},
		{[]int{5}, 4, []int{0}, 5, []int{0}, 5},
		{[]int{5, 1, 2}, 1, []int{0, 0, 0}, 8, []int{0, 0, 0}, 8},
		// The first press has as much as it can, even if another one has less.
		{[]int{1, 1, 5}, 2, []int{0, 0, 1}, 5, []int{1, 1, 0}, 5},
		{[]int{1, 1, 1, 5}, 4, []int{0, 0, 0, 1}, 5, []int{1, 2, 3, 0}, 5},
		{[]int{5, 1, 1}, 3, []int{0, 1, 1}, 5, []int{0, 1, 2}, 5},
		{[]int{1, 1, 1, 1}, 4, []int{0, 1, 2, 3}, 1, []int{0, 1, 2, 3}, 1},
		{[]int{1, 1, 1, 1, 1}, 4, []int{0, 0, 1, 1, 2}, 2, []int{0, 1, 2, 3, 0}, 2},
		// By descending time, equal ones by index, to the lowest of the presses.
		{[]int{2, 3, 2, 3}, 2, []int{0, 0, 1, 1}, 5, []int{0, 0, 1, 1}, 5},
		{[]int{1, 2, 3, 4, 5}, 3, []int{0, 1, 1, 0, 2}, 5, []int{1, 2, 2, 1, 0}, 5},
		// The examples by which Graham showed that his bound is met.
		{[]int{5, 5, 4, 4, 3, 3, 3}, 3, []int{0, 1, 0, 1, 2, 2, 2}, 9, []int{0, 1, 2, 2, 0, 1, 0}, 11},
		{[]int{7, 7, 6, 6, 5, 5, 4, 4, 4}, 4, []int{0, 1, 2, 2, 0, 1, 3, 3, 3}, 12, []int{0, 1, 2, 3, 2, 3, 0, 1, 0}, 15},
		{slices.Repeat([]int{most}, 12), 1, make([]int, 12), 12 * most, make([]int, 12), 12 * most},
		{slices.Repeat([]int{most}, 12), 4, []int{0, 0, 0, 1, 1, 1, 2, 2, 2, 3, 3, 3}, 3 * most, []int{0, 1, 2, 3, 0, 1, 2, 3, 0, 1, 2, 3}, 3 * most},
	} {
		what := fmt.Sprint(c.times, c.presses)
		both(press.Share(c.times, c.presses)).is(t, what, c.share, c.least, api.OK)
		both(press.Longest(c.times, c.presses)).is(t, what, c.longest, c.longestEnds, api.OK)
	}
}

// P8.4: of few works, Share is what a search of all assignments finds first.
func TestShareIsTheLeast(t *testing.T) {
	d := dice(6)
	for range 2000 {
		times, presses := some(d, d.IntN(8), 1, 1+d.IntN(8)), 1+d.IntN(4)
		var best []int
		least := 1 << 60
		lists(len(times), presses, func(to []int) {
			if finish := slices.Max(sums(times, to, presses)); finish < least {
				best, least = slices.Clone(to), finish
			}
		})
		both(press.Share(times, presses)).is(t, fmt.Sprint(times, presses), best, least, api.OK)
	}
}

// leastFinish is the least finish of works: of each set of them, one press is
// given a part, and the presses before it have the rest.
func leastFinish(times []int, presses int) int {
	all := 1 << len(times)
	minutes := make([]int, all)
	for set := range all {
		for i, time := range times {
			minutes[set] += time * (set >> i & 1)
		}
	}
	finish := slices.Clone(minutes)
	for range presses - 1 {
		for set := all - 1; set >= 0; set-- {
			for part := set; part > 0; part = (part - 1) & set {
				finish[set] = min(finish[set], max(minutes[part], finish[set&^part]))
			}
		}
	}
	return finish[all-1]
}

// canEnd reports whether works can be given to presses that have these sums so
// that all of them end by a minute. The longest work comes first.
func canEnd(times, sums []int, by int) bool {
	if len(times) == 0 {
		return slices.Max(sums) <= by
	}
	at := slices.Index(times, slices.Max(times))
	rest := slices.Delete(slices.Clone(times), at, at+1)
	for i := range sums {
		if sums[i]+times[at] <= by && !slices.Contains(sums[:i], sums[i]) {
			more := slices.Clone(sums)
			more[i] += times[at]
			if canEnd(rest, more, by) {
				return true
			}
		}
	}
	return false
}

// P8.4: of many works, Share has the least finish, and wherever it gives a work
// to a press, no press before that one would do.
func TestManyWorks(t *testing.T) {
	d := dice(7)
	for range 150 {
		times, presses := manyTimes(d), 2+d.IntN(3)
		what := fmt.Sprint(times, presses)
		to, finish, e := press.Share(times, presses)
		if len(to) != len(times) || e != api.OK {
			t.Error(what, to, e)
			continue
		}
		equal(t, what, finish, leastFinish(times, presses))
		given := make([]int, presses)
		for i, time := range times {
			for k := range to[i] {
				other := slices.Clone(given)
				other[k] += time
				if canEnd(times[i+1:], other, finish) {
					t.Error(what, to, "but the work", i, "to", k)
				}
			}
			given[to[i]] += time
		}
		equal(t, what, slices.Max(given), finish)
	}
}

// manyTimes is ten to twelve times, short or long, or of about one length.
func manyTimes(d *rand.Rand) []int {
	n := 10 + d.IntN(3)
	switch d.IntN(4) {
	case 0:
		return some(d, n, 1, 9)
	case 1:
		return some(d, n, 1, api.MaxMinutes)
	case 2:
		return some(d, n, 50, 100)
	default:
		return some(d, n, api.MaxMinutes-100, api.MaxMinutes)
	}
}

// longestFirst is Longest by the words of the chapter.
func longestFirst(times []int, presses int) ([]int, int) {
	to := slices.Repeat([]int{-1}, len(times))
	given := make([]int, presses)
	for range times {
		next := -1
		for i, time := range times {
			if to[i] < 0 && (next < 0 || time > times[next]) {
				next = i
			}
		}
		for k := range given {
			if to[next] < 0 || given[k] < given[to[next]] {
				to[next] = k
			}
		}
		given[to[next]] += times[next]
	}
	return to, slices.Max(given)
}

// P8.5, P8.10: Longest is what the chapter's words give, and within Graham's
// bound of Share.
func TestLongest(t *testing.T) {
	d := dice(8)
	for i := range 3000 {
		times, presses := some(d, d.IntN(13), 1, 1+d.IntN(12)), 1+d.IntN(4)
		if i%10 == 0 {
			times = manyTimes(d)
		}
		what := fmt.Sprint(times, presses)
		to, g := longestFirst(times, presses)
		both(press.Longest(times, presses)).is(t, what, to, g, api.OK)
		_, f, e := press.Share(times, presses)
		if f > g || 3*presses*g > (4*presses-1)*f || e != api.OK {
			t.Error(what, f, g, e)
		}
	}
}

// P8.4, P8.5: the errors, in their order.
func TestShareErrors(t *testing.T) {
	fails := func(times []int, presses int, want api.Errno) {
		t.Helper()
		what := fmt.Sprint(times, presses)
		both(press.Share(times, presses)).is(t, what, nil, 0, want)
		both(press.Longest(times, presses)).is(t, what, nil, 0, want)
	}
	for _, n := range hostile {
		if n < 1 || n > 4 {
			fails(nil, n, api.ErrArg)
			fails([]int{1, 2, 3}, n, api.ErrArg)
			fails([]int{0}, n, api.ErrArg)
			fails(make([]int, 13), n, api.ErrLimit)
		}
	}
	for _, n := range append([]int{0}, notMinutes...) {
		fails([]int{n}, 1, api.ErrArg)
		fails([]int{1, 2, n, 3}, 4, api.ErrArg)
		fails(slices.Repeat([]int{n}, 13), 2, api.ErrLimit)
	}
	fails(slices.Repeat([]int{1}, 13), 2, api.ErrLimit)
	fails(make([]int, 5000), 2, api.ErrLimit)
}

// Rule 4 of the document: no call changes its arguments, or answers with
// memory that it shares.
func TestShareMemory(t *testing.T) {
	times := []int{3, 3, 2, 2, 2}
	share, _, _ := press.Share(times, 2)
	longest, _, _ := press.Longest(times, 2)
	share[0], longest[0] = -7, -7
	both(press.Share(times, 2)).is(t, "again", []int{0, 0, 1, 1, 1}, 6, api.OK)
	both(press.Longest(times, 2)).is(t, "again", []int{0, 1, 0, 1, 0}, 7, api.OK)
	equal(t, "the times", times, []int{3, 3, 2, 2, 2})
}
