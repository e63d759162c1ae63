package press

import (
	"cmp"
	"slices"

	"merino/api"
)

// OnTime returns the tasks that are done in time, in the order in which they
// are done, and the others.
func OnTime(tasks []api.Task) ([]int, []int, api.Errno) {
	if err := checkTasks(tasks); err != api.OK {
		return nil, nil, err
	}
	var done, late []int
	minute := 0 // when all that is done has ended
	for _, i := range sorted(len(tasks), func(i, j int) int { return cmp.Compare(tasks[i].Due, tasks[j].Due) }) {
		done = append(done, i)
		minute += tasks[i].Work
		if minute > tasks[i].Due {
			at := longest(tasks, done)
			out := done[at]
			minute -= tasks[out].Work
			late = append(late, out)
			done = slices.Delete(done, at, at+1)
		}
	}
	slices.Sort(late)
	return done, late, api.OK
}

// longest returns where in a list of tasks the one with the greatest Work
// stands; of several the last one.
func longest(tasks []api.Task, list []int) int {
	at := 0
	for k, i := range list {
		if tasks[i].Work >= tasks[list[at]].Work {
			at = k
		}
	}
	return at
}

// checkTasks returns an error unless all tasks are valid.
func checkTasks(tasks []api.Task) api.Errno {
	if len(tasks) > api.MaxDumps {
		return api.ErrLimit
	}
	for _, t := range tasks {
		if !isWithin(t.Work, 1, api.MaxMinutes) || !isWithin(t.Due, 0, api.MaxMinutes) {
			return api.ErrArg
		}
	}
	return api.OK
}
