package press

import (
	"cmp"
	"math"
	"slices"

	"merino/api"
)

// mostPresses is how many presses can share works.
const mostPresses = 4

// Share returns which press each work is given to so that the finish is least,
// and that finish. It goes through the assignments in lexicographic order, so
// that a later one is better only if its finish is less; a press with the same
// sum as one before it can do no better than that one.
func Share(times []int, presses int) ([]int, int, api.Errno) {
	if err := checkTimes(times, presses); err != api.OK {
		return nil, 0, err
	}
	best, least := make([]int, len(times)), math.MaxInt
	to := make([]int, len(times))
	var sums [mostPresses]int
	var give func(at, finish int)
	give = func(at, finish int) {
		if finish >= least {
			return
		}
		if at == len(times) {
			copy(best, to)
			least = finish
			return
		}
		for press := range presses {
			if slices.Contains(sums[:press], sums[press]) {
				continue
			}
			to[at] = press
			sums[press] += times[at]
			give(at+1, max(finish, sums[press]))
			sums[press] -= times[at]
		}
	}
	give(0, 0)
	return best, least, api.OK
}

// Longest returns which press each work is given to when the longest one is
// given first, to the press that is free first, and the finish of that.
func Longest(times []int, presses int) ([]int, int, api.Errno) {
	if err := checkTimes(times, presses); err != api.OK {
		return nil, 0, err
	}
	to := make([]int, len(times))
	sums := make([]int, presses)
	for _, i := range sorted(len(times), func(i, j int) int { return cmp.Compare(times[j], times[i]) }) {
		free := slices.Index(sums, slices.Min(sums))
		to[i] = free
		sums[free] += times[i]
	}
	return to, slices.Max(sums), api.OK
}

// checkTimes returns an error unless works that take these times can be shared
// by so many presses.
func checkTimes(times []int, presses int) api.Errno {
	if len(times) > api.MaxWorks {
		return api.ErrLimit
	}
	if !isWithin(presses, 1, mostPresses) {
		return api.ErrArg
	}
	for _, time := range times {
		if !isWithin(time, 1, api.MaxMinutes) {
			return api.ErrArg
		}
	}
	return api.OK
}
