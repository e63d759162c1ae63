package press_test

import (
	"fmt"
	"math"
	"math/rand/v2"
	"slices"
	"testing"

	"merino/api"
)

// dice gives the same numbers in every run.
func dice(seed uint64) *rand.Rand { return rand.New(rand.NewPCG(seed, 8)) }

// hostile are ints at and round the limits.
var hostile = []int{
	math.MinInt, math.MinInt + 1, -api.MaxMinutes - 1, -api.MaxMinutes, -2, -1, 0, 1, 2, 3, 4, 5, 7, 10, 11, 12, 13, 63,
	64, 65, api.MaxMinutes/2 - 1, api.MaxMinutes / 2, api.MaxMinutes/2 + 1, api.MaxMinutes - 1, api.MaxMinutes,
	api.MaxMinutes + 1, api.MaxAmount, math.MaxInt - 1, math.MaxInt,
}

// notMinutes are ints that are no minutes, and no masses.
var notMinutes = []int{math.MinInt, math.MinInt + 1, -api.MaxMinutes, -1, api.MaxMinutes + 1, math.MaxInt - 1, math.MaxInt}

// equal fails the test unless two values print alike.
func equal(t *testing.T, what, got, want any) {
	t.Helper()
	if fmt.Sprint(got) != fmt.Sprint(want) {
		t.Errorf("%v: got %v; want %v", what, got, want)
	}
}

// same fails the test unless a call answered the number that was wanted.
func same(t *testing.T, what any, got int, e api.Errno, want int, wantErr api.Errno) {
	t.Helper()
	if got != want || e != wantErr {
		t.Errorf("%v: got %d, error %d; want %d, error %d", what, got, e, want, wantErr)
	}
}

// listed is what a call answered that answers a list, a number and an error.
type listed struct {
	list []int
	n    int
	err  api.Errno
}

// both is the results of such a call.
func both(list []int, n int, e api.Errno) listed { return listed{list, n, e} }

// is fails the test unless this is what was wanted.
func (l listed) is(t *testing.T, what any, list []int, n int, e api.Errno) {
	t.Helper()
	equal(t, what, l, listed{list, n, e})
}

// lists calls do with all lists of so many numbers from 0 to before most, in
// lexicographic order.
func lists(length, most int, do func([]int)) {
	list := make([]int, length)
	var on func(i int)
	on = func(i int) {
		if i == length {
			do(list)
			return
		}
		for k := range most {
			list[i] = k
			on(i + 1)
		}
	}
	on(0)
}

// orders calls do with all orders of these numbers.
func orders(numbers []int, do func([]int)) {
	order := slices.Clone(numbers)
	var on func(i int)
	on = func(i int) {
		if i == len(order) {
			do(order)
			return
		}
		for k := i; k < len(order); k++ {
			order[i], order[k] = order[k], order[i]
			on(i + 1)
			order[i], order[k] = order[k], order[i]
		}
	}
	on(0)
}

// upTo is the numbers from 0 to before n.
func upTo(n int) []int {
	var all []int
	for i := range n {
		all = append(all, i)
	}
	return all
}

// some is so many numbers from least to most.
func some(d *rand.Rand, n, least, most int) []int {
	var all []int
	for range n {
		all = append(all, least+d.IntN(most-least+1))
	}
	return all
}

// sum is the sum of numbers.
func sum(numbers []int) int {
	all := 0
	for _, n := range numbers {
		all += n
	}
	return all
}

// sums is the sum of the numbers that each of n things is given.
func sums(numbers, to []int, n int) []int {
	all := make([]int, n)
	for i, k := range to {
		all[k] += numbers[i]
	}
	return all
}
