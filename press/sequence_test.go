package press_test

import (
	"fmt"
	"math"
	"math/rand/v2"
	"slices"
	"testing"

	"merino/api"
	"merino/press"
)

// dumps are dumps of these minutes on the press and on the strapper.
func dumps(minutes ...int) []api.Dump {
	var all []api.Dump
	for i := 0; i < len(minutes); i += 2 {
		all = append(all, api.Dump{Press: minutes[i], Strap: minutes[i+1]})
	}
	return all
}

// anyDumps is dumps whose minutes are often alike.
func anyDumps(d *rand.Rand, n, most int) []api.Dump { return dumps(some(d, 2*n, 0, most)...) }

// reversed is an order from behind.
func reversed(n int) []int {
	order := upTo(n)
	slices.Reverse(order)
	return order
}

// The chapter's first example, and what no example shows (P8.1).
func TestSequence(t *testing.T) {
	most := api.MaxMinutes
	for _, c := range []struct {
		dumps []api.Dump
		order []int
		end   int
	}{
		{nil, nil, 0},
		{dumps(3, 2, 1, 4, 2, 2), []int{1, 2, 0}, 9},
		{dumps(0, 0), []int{0}, 0},
		{dumps(5, 0), []int{0}, 5},
		{dumps(0, 5), []int{0}, 5},
		// As much on the press as on the strapper: with the first ones.
		{dumps(9, 8, 7, 7), []int{1, 0}, 24},
		{dumps(7, 7, 8, 9, 6, 7), []int{2, 0, 1}, 30},
		{dumps(4, 4, 3, 3, 4, 4, 3, 3), []int{1, 3, 0, 2}, 18},
		// The first ones by Press, whatever their Strap; equal ones by index.
		{dumps(2, 3, 1, 9, 2, 9, 1, 2, 2, 2), []int{1, 3, 0, 2, 4}, 26},
		// The others by Strap, whatever their Press; equal ones by index.
		{dumps(9, 1, 3, 2, 5, 1, 9, 2, 7, 6), []int{4, 1, 3, 0, 2}, 34},
		{dumps(5, 4, 4, 5, 5, 4, 4, 5, 1, 0, 0, 1), []int{5, 1, 3, 0, 2, 4}, 22},
		{dumps(most, 0, 0, most), []int{1, 0}, most},
		{dumps(0, most, most, 0), []int{0, 1}, most},
		{dumps(most, most, most-1, most), []int{1, 0}, 3*most - 1},
	} {
		both(press.Sequence(c.dumps)).is(t, c.dumps, c.order, c.end, api.OK)
	}
}

// inLine is the order by Johnson's rule, by the words of the chapter: again
// and again the first of the dumps that are left.
func inLine(dumps []api.Dump) []int {
	var order []int
	take := func(isOne func(api.Dump) bool, isBefore func(a, b api.Dump) bool) {
		for {
			next := -1
			for i, d := range dumps {
				if isOne(d) && !slices.Contains(order, i) && (next < 0 || isBefore(d, dumps[next])) {
					next = i
				}
			}
			if next < 0 {
				return
			}
			order = append(order, next)
		}
	}
	take(func(d api.Dump) bool { return d.Press <= d.Strap }, func(a, b api.Dump) bool { return a.Press < b.Press })
	take(func(d api.Dump) bool { return d.Press > d.Strap }, func(a, b api.Dump) bool { return a.Strap > b.Strap })
	return order
}

// paths are the sums of the chapter for each position of an order: Press up to
// and including it, and Strap from it on.
func paths(dumps []api.Dump, order []int) []int {
	var all []int
	for k := range order {
		minutes := 0
		for i, dump := range order {
			if i <= k {
				minutes += dumps[dump].Press
			}
			if i >= k {
				minutes += dumps[dump].Strap
			}
		}
		all = append(all, minutes)
	}
	return all
}

// minuteByMinute is the makespan of an order, by two machines that are looked
// at minute by minute.
func minuteByMinute(dumps []api.Dump, order []int) int {
	pressing, strapping := slices.Clone(order), slices.Clone(order)
	pressed, strapped := 0, 0 // minutes spent on the first one of each
	// What takes no more minutes is done at once.
	step := func() {
		for len(pressing) > 0 && pressed == dumps[pressing[0]].Press {
			pressing, pressed = pressing[1:], 0
		}
		for len(strapping) > len(pressing) && strapped == dumps[strapping[0]].Strap {
			strapping, strapped = strapping[1:], 0
		}
	}
	minute := 0
	for step(); len(strapping) > 0; step() {
		minute++
		canStrap := len(strapping) > len(pressing)
		if len(pressing) > 0 {
			pressed++
		}
		if canStrap {
			strapped++
		}
	}
	return minute
}

// P8.1, P8.2: the order is the one of the chapter's words, and makespans are
// those of machines that are looked at, and the greatest of the sums.
func TestMachines(t *testing.T) {
	d := dice(1)
	for range 4000 {
		list := anyDumps(d, d.IntN(9), 1+d.IntN(7))
		order := inLine(list)
		both(press.Sequence(list)).is(t, list, order, minuteByMinute(list, order), api.OK)
		order = d.Perm(len(list))
		end := minuteByMinute(list, order)
		what := fmt.Sprint(list, order)
		got, e := press.Makespan(list, order)
		same(t, what, got, e, end, api.OK)
		k, e := press.Critical(list, order)
		sums := paths(list, order)
		same(t, what, k, e, slices.Index(sums, end), api.OK)
		if len(sums) > 0 && slices.Max(sums) != end {
			t.Error(what, sums, end)
		}
	}
}

// P8.8: no order has a makespan below that of Sequence.
func TestNoOrderIsShorter(t *testing.T) {
	d := dice(2)
	for range 1500 {
		list := anyDumps(d, d.IntN(8), 1+d.IntN(9))
		order, end, e := press.Sequence(list)
		got, e2 := press.Makespan(list, order)
		if got != end || e != api.OK || e2 != api.OK {
			t.Error(list, order, end, got, e, e2)
		}
		orders(upTo(len(list)), func(order []int) {
			if got, e := press.Makespan(list, order); got < end || e != api.OK {
				t.Error(list, order, got, e, "of Sequence:", end)
			}
		})
	}
}

// P8.1, P8.2, P8.8: as many dumps as there can be, of all lengths.
func TestManyDumps(t *testing.T) {
	d := dice(3)
	for range 200 {
		list := anyDumps(d, api.MaxDumps, []int{3, 100, api.MaxMinutes}[d.IntN(3)])
		order := inLine(list)
		sums := paths(list, order)
		both(press.Sequence(list)).is(t, list, order, slices.Max(sums), api.OK)
		k, e := press.Critical(list, order)
		same(t, list, k, e, slices.Index(sums, slices.Max(sums)), api.OK)
		other := d.Perm(len(list))
		got, e := press.Makespan(list, other)
		same(t, list, got, e, slices.Max(paths(list, other)), api.OK)
		if got < slices.Max(sums) {
			t.Error(list, other, got)
		}
	}
	long := slices.Repeat(dumps(api.MaxMinutes, api.MaxMinutes), api.MaxDumps)
	both(press.Sequence(long)).is(t, "the longest", upTo(api.MaxDumps), 65<<30, api.OK)
}

// P8.2: of several positions Critical is the first one; without dumps it is -1.
func TestCritical(t *testing.T) {
	for _, c := range []struct {
		dumps   []api.Dump
		order   []int
		end, at int
	}{
		{nil, nil, 0, -1},
		{[]api.Dump{}, []int{}, 0, -1},
		{dumps(3, 2, 1, 4, 2, 2), []int{1, 2, 0}, 9, 0},
		{dumps(3, 2, 1, 4, 2, 2), []int{0, 1, 2}, 11, 0},
		{dumps(3, 2, 1, 4, 2, 2), []int{2, 0, 1}, 11, 1},
		{dumps(0, 0), []int{0}, 0, 0},
		{dumps(0, 0, 0, 0), []int{1, 0}, 0, 0},
		{dumps(1, 1, 1, 1, 1, 1), []int{2, 0, 1}, 4, 0},
		{dumps(2, 1, 2, 1, 2, 1), []int{0, 1, 2}, 7, 2},
		{dumps(2, 2, 3, 2, 2, 3), []int{0, 1, 2}, 10, 1},
		{dumps(api.MaxMinutes, 0, 0, api.MaxMinutes), []int{0, 1}, 2 * api.MaxMinutes, 0},
	} {
		what := fmt.Sprint(c.dumps, c.order)
		got, e := press.Makespan(c.dumps, c.order)
		same(t, what, got, e, c.end, api.OK)
		got, e = press.Critical(c.dumps, c.order)
		same(t, what, got, e, c.at, api.OK)
	}
}

// P8.1, P8.2: the errors, in their order; an order is looked at last.
func TestSequenceErrors(t *testing.T) {
	fails := func(dumps []api.Dump, order []int, want api.Errno) {
		t.Helper()
		got, e := press.Makespan(dumps, order)
		same(t, order, got, e, 0, want)
		got, e = press.Critical(dumps, order)
		same(t, order, got, e, 0, want)
	}
	wrong := func(dumps []api.Dump, want api.Errno) {
		t.Helper()
		both(press.Sequence(dumps)).is(t, len(dumps), nil, 0, want)
		for _, order := range [][]int{nil, upTo(len(dumps)), {-1}} {
			fails(dumps, order, want)
		}
	}
	wrong(make([]api.Dump, 65), api.ErrLimit)
	wrong(make([]api.Dump, 5000), api.ErrLimit)
	for _, n := range notMinutes {
		wrong(dumps(n, 1), api.ErrArg)
		wrong(dumps(1, n), api.ErrArg)
		wrong(dumps(1, 2, 0, 0, 3, n), api.ErrArg)
		wrong(dumps(1, 2, n, 0, 3, 1), api.ErrArg)
		wrong(slices.Repeat(dumps(n, n), 65), api.ErrLimit)
	}
	three := dumps(3, 2, 1, 4, 2, 2)
	for _, order := range [][]int{
		nil, {0}, {0, 1}, {1, 2}, {0, 1, 2, 3}, {0, 1, 2, 0}, {0, 1, 1}, {0, 0, 0}, {0, 2, 2}, {1, 2, 3}, {3, 0, 1}, {-1, 0, 1},
		{0, 1, -1}, {0, 1, math.MinInt}, {math.MaxInt, 0, 1}, {0, 1, 64}, upTo(65), make([]int, 5000),
	} {
		fails(three, order, api.ErrArg)
	}
	fails(nil, []int{0}, api.ErrArg)
	fails(nil, []int{-1}, api.ErrArg)
	fails(make([]api.Dump, 64), upTo(63), api.ErrArg)
	fails(make([]api.Dump, 64), upTo(65), api.ErrArg)
	got, e := press.Makespan(make([]api.Dump, 64), reversed(64))
	same(t, "64 dumps", got, e, 0, api.OK)
}

// Rule 4 of the document: no call changes its arguments, or answers with
// memory that it shares.
func TestSequenceMemory(t *testing.T) {
	list, order := dumps(3, 2, 1, 4, 2, 2), []int{2, 0, 1}
	first, _, _ := press.Sequence(list)
	first[0] = -7
	both(press.Sequence(list)).is(t, "again", []int{1, 2, 0}, 9, api.OK)
	press.Makespan(list, order)
	press.Critical(list, order)
	equal(t, "the dumps", list, dumps(3, 2, 1, 4, 2, 2))
	equal(t, "the order", order, []int{2, 0, 1})
}
