package accounts

import (
	"slices"

	"merino/api"
	"merino/flow"
)

const mostMembers = 10

// Nets returns what the others owe each member less what the member owes.
func Nets(owed [][]int) ([]int, api.Errno) {
	if err := checkOwed(owed); err != api.OK {
		return nil, err
	}
	nets := make([]int, len(owed))
	for i, row := range owed {
		for j, cents := range row {
			nets[i] -= cents
			nets[j] += cents
		}
	}
	return nets, api.OK
}

// Compress returns what is left when as much as possible is cancelled, and how
// much that is. What is cancelled leaves each member as it enters: it is a flow
// for no need, which is cheapest when each cent that it carries is a gain. The
// lexicographically greatest of them leaves the least.
func Compress(owed [][]int) ([][]int, int, api.Errno) {
	if err := checkOwed(owed); err != api.OK {
		return nil, 0, err
	}
	if len(owed) == 0 {
		return nil, 0, api.OK // a network has nodes
	}
	var arcs []api.Arc
	var left [][]int
	for i, row := range owed {
		for j, cents := range row {
			if cents > 0 {
				arcs = append(arcs, api.Arc{From: i, To: j, Cap: cents, Cost: -1})
			}
		}
		left = append(left, slices.Clone(row))
	}
	cancelled, err := flow.Solve(len(owed), arcs, make([]int, len(owed)))
	if err != api.OK {
		return nil, 0, err
	}
	for i, arc := range arcs {
		left[arc.From][arc.To] -= cancelled.Amounts[i]
	}
	return left, -cancelled.Cost, api.OK
}

// checkOwed returns an error unless this is what members owe one another.
func checkOwed(owed [][]int) api.Errno {
	if len(owed) > mostMembers {
		return api.ErrLimit
	}
	for i, row := range owed {
		if len(row) != len(owed) {
			return api.ErrArg
		}
		for j, cents := range row {
			if cents < 0 || cents > api.MaxCents || i == j && cents != 0 {
				return api.ErrArg
			}
		}
	}
	return api.OK
}
