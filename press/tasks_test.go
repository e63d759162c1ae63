package press_test

import (
	"fmt"
	"math"
	"math/rand/v2"
	"slices"
	"testing"

	"merino/api"
	"merino/press"
)

// tasks are tasks of these minutes, with the minutes at which they are due.
func tasks(minutes ...int) []api.Task {
	var all []api.Task
	for i := 0; i < len(minutes); i += 2 {
		all = append(all, api.Task{Work: minutes[i], Due: minutes[i+1]})
	}
	return all
}

// anyTasks is tasks that are often alike, of which some can be done in time.
func anyTasks(d *rand.Rand, n, work, due int) []api.Task {
	var all []api.Task
	for range n {
		all = append(all, api.Task{Work: 1 + d.IntN(work), Due: d.IntN(due + 1)})
	}
	return all
}

// onTime fails the test unless OnTime answers this.
func onTime(t *testing.T, tasks []api.Task, done, late []int, want api.Errno) {
	t.Helper()
	gotDone, gotLate, e := press.OnTime(tasks)
	equal(t, tasks, fmt.Sprint(gotDone, gotLate, e), fmt.Sprint(done, late, want))
}

// The chapter's second example, and what no example shows (P8.3).
func TestOnTime(t *testing.T) {
	most := api.MaxMinutes
	none := []int{}
	for _, c := range []struct {
		tasks      []api.Task
		done, late []int
	}{
		{nil, none, none},
		{tasks(4, 5, 3, 6, 2, 7), []int{1, 2}, []int{0}},
		{tasks(1, 1), []int{0}, none},
		{tasks(1, 0), none, []int{0}},
		{tasks(2, 1), none, []int{0}},
		{tasks(most, most), []int{0}, none},
		{tasks(most, most-1, most, most), []int{1}, []int{0}},
		// Done in the order of Due, not of the index.
		{tasks(1, 9, 1, 3, 1, 6), []int{1, 2, 0}, none},
		{tasks(1, 4, 1, 4, 1, 2, 1, 4), []int{2, 0, 1, 3}, none},
		// Exactly at the minute at which it is due.
		{tasks(2, 2, 3, 5, 4, 9), []int{0, 1, 2}, none},
		{tasks(2, 2, 3, 5, 4, 8), []int{0, 1}, []int{2}},
		// Of several with the greatest Work, the last one in the order goes out.
		{tasks(3, 4, 3, 5), []int{0}, []int{1}},
		{tasks(3, 5, 3, 5), []int{0}, []int{1}},
		{tasks(3, 5, 3, 4), []int{1}, []int{0}},
		{tasks(3, 9, 3, 8, 1, 9, 3, 9), []int{1, 0, 2}, []int{3}},
		{tasks(4, 8, 4, 8, 1, 8), []int{0, 2}, []int{1}},
		// What goes out makes room for what comes later, and stays out.
		{tasks(6, 6, 2, 7, 3, 8, 2, 9), []int{1, 2, 3}, []int{0}},
		{tasks(5, 5, 4, 6, 3, 7, 2, 8, 1, 9), []int{2, 3, 4}, []int{0, 1}},
		// The others stand by index, not as they went out.
		{tasks(2, 9, 9, 1, 9, 0, 5, 5, 3, 6), []int{4, 0}, []int{1, 2, 3}},
		{tasks(7, 8, 6, 7, 1, 1), []int{2, 1}, []int{0}},
	} {
		onTime(t, c.tasks, c.done, c.late, api.OK)
	}
}

// chosen is OnTime by the words of the chapter, with a mark for each task.
func chosen(tasks []api.Task) (done, late []int) {
	seen, isDone := make([]bool, len(tasks)), make([]bool, len(tasks))
	var order []int
	for range tasks {
		next := -1
		for i, task := range tasks {
			if !seen[i] && (next < 0 || task.Due < tasks[next].Due) {
				next = i
			}
		}
		order = append(order, next)
		seen[next], isDone[next] = true, true
		works, out := 0, -1
		for _, i := range order {
			if isDone[i] {
				works += tasks[i].Work
				if out < 0 || tasks[i].Work >= tasks[out].Work {
					out = i
				}
			}
		}
		if works > tasks[next].Due {
			isDone[out] = false
		}
	}
	for _, i := range order {
		if isDone[i] {
			done = append(done, i)
		}
	}
	for i := range tasks {
		if !isDone[i] {
			late = append(late, i)
		}
	}
	return done, late
}

// inTime reports whether tasks one behind the other all end in time.
func inTime(tasks []api.Task, order []int) bool {
	minute := 0
	for _, i := range order {
		minute += tasks[i].Work
		if minute > tasks[i].Due {
			return false
		}
	}
	return true
}

// P8.3: what is chosen is what the chapter's words choose.
func TestChosen(t *testing.T) {
	d := dice(4)
	for range 5000 {
		work := 1 + d.IntN(6)
		list := anyTasks(d, d.IntN(12), work, 1+d.IntN(5*work))
		done, late := chosen(list)
		onTime(t, list, done, late, api.OK)
	}
	for range 300 {
		list := anyTasks(d, api.MaxDumps, []int{3, 100, api.MaxMinutes / 16, api.MaxMinutes}[d.IntN(4)], api.MaxMinutes)
		for i := range list {
			if d.IntN(2) == 0 {
				list[i].Due = d.IntN(1 + 40*list[i].Work&api.MaxMinutes)
			}
		}
		done, late := chosen(list)
		onTime(t, list, done, late, api.OK)
		if !inTime(list, done) {
			t.Error(list, done)
		}
	}
	all := slices.Repeat(tasks(api.MaxMinutes, api.MaxMinutes), api.MaxDumps)
	onTime(t, all, []int{0}, upTo(api.MaxDumps)[1:], api.OK)
}

// P8.9: no order of a set of more tasks is in time, and the one of OnTime is.
func TestNoMoreAreOnTime(t *testing.T) {
	d := dice(5)
	counts := make([]int, 7)
	for range 2000 {
		work := 1 + d.IntN(6)
		list := anyTasks(d, d.IntN(7), work, 1+d.IntN(5*work))
		done, late, e := press.OnTime(list)
		if e != api.OK || !inTime(list, done) || len(done)+len(late) != len(list) {
			t.Error(list, done, late, e)
		}
		counts[len(done)]++
		lists(len(list), 2, func(taken []int) {
			var set []int
			for i, k := range taken {
				if k == 1 {
					set = append(set, i)
				}
			}
			if len(set) > len(done) {
				orders(set, func(order []int) {
					if inTime(list, order) {
						t.Error(list, "done:", done, "but", order)
					}
				})
			}
		})
	}
	if slices.Min(counts[:5]) < 20 {
		t.Error(counts)
	}
}

// P8.3: the errors, in their order.
func TestOnTimeErrors(t *testing.T) {
	for _, n := range append([]int{0}, notMinutes...) {
		onTime(t, tasks(n, 5), nil, nil, api.ErrArg)
		onTime(t, tasks(1, 5, 2, 6, n, 5), nil, nil, api.ErrArg)
		onTime(t, slices.Repeat(tasks(n, 5), 65), nil, nil, api.ErrLimit)
	}
	for _, n := range notMinutes {
		onTime(t, tasks(1, n), nil, nil, api.ErrArg)
		onTime(t, tasks(1, 5, 2, n, 3, 5), nil, nil, api.ErrArg)
		onTime(t, slices.Repeat(tasks(1, n), 64), nil, nil, api.ErrArg)
	}
	onTime(t, make([]api.Task, 65), nil, nil, api.ErrLimit)
	onTime(t, make([]api.Task, 64), nil, nil, api.ErrArg)
	onTime(t, slices.Repeat(tasks(1, math.MaxInt), 5000), nil, nil, api.ErrLimit)
	onTime(t, slices.Repeat(tasks(1, 0), 64), nil, upTo(64), api.OK)
	onTime(t, slices.Repeat(tasks(1, 64), 64), upTo(64), nil, api.OK)
}

// Rule 4 of the document: no call changes its arguments, or answers with
// memory that it or its results share.
func TestTaskMemory(t *testing.T) {
	list := tasks(4, 5, 3, 6, 2, 7, 9, 8)
	done, late, _ := press.OnTime(list)
	_ = append(done, -7)
	done[0] = -7
	equal(t, "late", late, []int{0, 3})
	_ = append(late, -7)
	late[0] = -7
	equal(t, "done", done, []int{-7, 2})
	onTime(t, list, []int{1, 2}, []int{0, 3}, api.OK)
	equal(t, "the tasks", list, tasks(4, 5, 3, 6, 2, 7, 9, 8))
}
