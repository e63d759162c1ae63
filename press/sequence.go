// Package press is layer 8, the work of the dumping shed: see
// shared/doc/08-press.md.
package press

import (
	"cmp"
	"slices"

	"merino/api"
)

// Sequence returns the order by Johnson's rule, and its makespan.
func Sequence(dumps []api.Dump) ([]int, int, api.Errno) {
	if err := checkDumps(dumps); err != api.OK {
		return nil, 0, err
	}
	order := sorted(len(dumps), func(i, j int) int { return byJohnson(dumps[i], dumps[j]) })
	return order, makespan(dumps, order), api.OK
}

// Makespan returns the minute at which the last dump of an order is strapped.
func Makespan(dumps []api.Dump, order []int) (int, api.Errno) {
	if err := checkOrder(dumps, order); err != api.OK {
		return 0, err
	}
	return makespan(dumps, order), api.OK
}

// Critical returns the first position of an order for which the minutes on the
// press up to it, and those on the strapper from it on, sum to the makespan; -1
// without dumps.
func Critical(dumps []api.Dump, order []int) (int, api.Errno) {
	if err := checkOrder(dumps, order); err != api.OK {
		return 0, err
	}
	end := makespan(dumps, order)
	before, behind := 0, 0 // on the press up to here, on the strapper from here on
	for _, d := range dumps {
		behind += d.Strap
	}
	for k, i := range order {
		before += dumps[i].Press
		if before+behind == end {
			return k, api.OK
		}
		behind -= dumps[i].Strap
	}
	return -1, api.OK
}

// byJohnson compares two dumps by Johnson's rule: what feeds the strapper soon
// comes first, and what leaves it little to do comes last.
func byJohnson(a, b api.Dump) int {
	aFeeds, bFeeds := a.Press <= a.Strap, b.Press <= b.Strap
	switch {
	case aFeeds && bFeeds:
		return cmp.Compare(a.Press, b.Press)
	case aFeeds:
		return -1
	case bFeeds:
		return 1
	default:
		return cmp.Compare(b.Strap, a.Strap)
	}
}

// makespan is Makespan of valid arguments.
func makespan(dumps []api.Dump, order []int) int {
	pressed, strapped := 0, 0
	for _, i := range order {
		pressed += dumps[i].Press
		strapped = max(pressed, strapped) + dumps[i].Strap
	}
	return strapped
}

// checkDumps returns an error unless all dumps are valid.
func checkDumps(dumps []api.Dump) api.Errno {
	if len(dumps) > api.MaxDumps {
		return api.ErrLimit
	}
	for _, d := range dumps {
		if !isWithin(d.Press, 0, api.MaxMinutes) || !isWithin(d.Strap, 0, api.MaxMinutes) {
			return api.ErrArg
		}
	}
	return api.OK
}

// checkOrder returns an error unless these are valid dumps and an order of
// them.
func checkOrder(dumps []api.Dump, order []int) api.Errno {
	if err := checkDumps(dumps); err != api.OK {
		return err
	}
	if len(order) != len(dumps) {
		return api.ErrArg
	}
	var isTaken [api.MaxDumps]bool
	for _, i := range order {
		if !isWithin(i, 0, len(dumps)-1) || isTaken[i] {
			return api.ErrArg
		}
		isTaken[i] = true
	}
	return api.OK
}

// sorted returns the numbers from 0 to before n in the order of compare, and
// those that it holds equal by themselves.
func sorted(n int, compare func(i, j int) int) []int {
	numbers := make([]int, n)
	for i := range numbers {
		numbers[i] = i
	}
	slices.SortStableFunc(numbers, compare)
	return numbers
}

// isWithin reports whether a number is from least to most.
func isWithin(n, least, most int) bool { return n >= least && n <= most }
