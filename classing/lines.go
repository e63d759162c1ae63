package classing

import (
	"bytes"
	"cmp"
	"slices"

	"merino/api"
)

// none stands for a cost where there is no cut.
const none = -1

// Lines returns the cheapest plan, and its cost.
func Lines(fleeces []api.Fleece, spec api.Spec) ([]api.Line, int, api.Errno) {
	if err := check(fleeces, spec); err != api.OK {
		return nil, 0, err
	}
	if len(fleeces) == 0 {
		return nil, 0, api.OK
	}
	c := sorted(fleeces, spec)
	least := c.leastCosts()
	lines := 0
	for k := 1; k <= spec.Lines; k++ {
		if isLess(least[k][0], least[lines][0]) {
			lines = k
		}
	}
	if lines == 0 {
		return nil, 0, api.ErrPlan
	}
	return c.plan(least[:lines+1]), least[lines][0], api.OK
}

// Curve returns the least costs of plans with 1, 2 and so on lines.
func Curve(fleeces []api.Fleece, spec api.Spec) ([]int, api.Errno) {
	if err := check(fleeces, spec); err != api.OK {
		return nil, err
	}
	c := sorted(fleeces, spec)
	curve := make([]int, spec.Lines)
	for k, costs := range c.leastCosts()[1:] {
		curve[k] = costs[0]
	}
	return curve, api.OK
}

// Cost returns the cost of the plan with these lengths.
func Cost(fleeces []api.Fleece, spec api.Spec, lengths []int) (int, api.Errno) {
	if err := check(fleeces, spec); err != api.OK {
		return 0, err
	}
	if err := checkLengths(lengths, len(fleeces)); err != api.OK {
		return 0, err
	}
	if len(lengths) > spec.Lines {
		return 0, api.ErrPlan
	}
	c := sorted(fleeces, spec)
	sum, at := 0, 0
	for _, length := range lengths {
		cost := c.costs[at][at+length]
		if cost == none {
			return 0, api.ErrPlan
		}
		sum += cost
		at += length
	}
	return sum, api.OK
}

// Price returns the least cost of a cut if each line costs price besides.
func Price(fleeces []api.Fleece, spec api.Spec, price int) (int, api.Errno) {
	if err := check(fleeces, spec); err != api.OK {
		return 0, err
	}
	if price < 0 || price > api.MaxAmount {
		return 0, api.ErrArg
	}
	c := sorted(fleeces, spec)
	least := make([]int, len(fleeces)+1)
	for i := len(fleeces) - 1; i >= 0; i-- {
		least[i] = c.leastFrom(i, least)
		if least[i] != none {
			least[i] += price
		}
	}
	if least[0] == none {
		return 0, api.ErrPlan
	}
	return least[0], api.OK
}

// check returns the error that all functions of plans return first.
func check(fleeces []api.Fleece, spec api.Spec) api.Errno {
	if len(fleeces) > api.MaxFleeces {
		return api.ErrLimit
	}
	if spec.Lines < 1 || spec.Lines > api.MaxLines || spec.Least < 0 || spec.Least > api.MaxMass {
		return api.ErrArg
	}
	if spec.Spread < 0 || spec.Spread > api.MaxMicron {
		return api.ErrArg
	}
	for _, f := range fleeces {
		if f.Micron < 1 || f.Micron > api.MaxMicron || f.Grams < 1 || f.Grams > api.MaxMass {
			return api.ErrArg
		}
	}
	return api.OK
}

// checkLengths returns an error unless these are the lengths of a cut of n
// fleeces. What is left is compared in place of the sum, which might overflow.
func checkLengths(lengths []int, n int) api.Errno {
	if len(lengths) > api.MaxFleeces {
		return api.ErrLimit
	}
	for _, length := range lengths {
		if length < 1 || length > n {
			return api.ErrArg
		}
		n -= length
	}
	if n > 0 {
		return api.ErrArg
	}
	return api.OK
}

// clip is fleeces in their order, and what their lines cost.
type clip struct {
	spec    api.Spec
	places  []int        // the indexes of the fleeces
	fleeces []api.Fleece // the fleeces at these indexes
	costs   [][]int      // costs[i][j] is the cost of the line from i to before j, or none
}

// sorted returns the clip of these fleeces.
func sorted(fleeces []api.Fleece, spec api.Spec) clip {
	n := len(fleeces)
	c := clip{spec, make([]int, n), make([]api.Fleece, n), make([][]int, n)}
	for i := range c.places {
		c.places[i] = i
	}
	slices.SortStableFunc(c.places, func(i, j int) int {
		a, b := fleeces[i], fleeces[j]
		return cmp.Or(bytes.Compare(a.Kind[:], b.Kind[:]), cmp.Compare(a.Micron, b.Micron))
	})
	for i, place := range c.places {
		c.fleeces[i] = fleeces[place]
	}
	for i := range c.costs {
		c.costs[i] = make([]int, n+1)
		for j := i + 1; j <= n; j++ {
			c.costs[i][j] = lineCost(c.fleeces[i:j], spec)
		}
	}
	return c
}

// leastCosts returns rows of which row k contains, for each i, the least cost
// of a cut of the fleeces from i on into exactly k lines, or none.
func (c clip) leastCosts() [][]int {
	n := len(c.fleeces)
	rows := make([][]int, c.spec.Lines+1)
	rows[0] = slices.Repeat([]int{none}, n+1)
	rows[0][n] = 0
	for k := 1; k < len(rows); k++ {
		rows[k] = make([]int, n+1)
		for i := range rows[k] {
			rows[k][i] = c.leastFrom(i, rows[k-1])
		}
	}
	return rows
}

// leastFrom returns the least cost of a line that begins at i and of what
// comes after it, whose costs are in rest; none if there is no such line.
func (c clip) leastFrom(i int, rest []int) int {
	least := none
	for j := i + 1; j < len(rest); j++ {
		if cost := c.costWith(i, j, rest); isLess(cost, least) {
			least = cost
		}
	}
	return least
}

// costWith returns the cost of the line from i to before j and of what comes
// after it; none if one of the two is not to be had.
func (c clip) costWith(i, j int, rest []int) int {
	if c.costs[i][j] == none || rest[j] == none {
		return none
	}
	return c.costs[i][j] + rest[j]
}

// plan returns the cheapest plan with exactly as many lines as there are rows
// of least costs after the first; of several, the one whose lengths come first.
func (c clip) plan(least [][]int) []api.Line {
	var lines []api.Line
	i := 0
	for k := len(least) - 1; k > 0; k-- {
		j := i + 1
		for c.costWith(i, j, least[k-1]) != least[k][i] {
			j++
		}
		lines = append(lines, c.line(i, j))
		i = j
	}
	return lines
}

// line returns the line from i to before j.
func (c clip) line(i, j int) api.Line {
	run := c.fleeces[i:j]
	return api.Line{
		Kind:    run[0].Kind,
		Fleeces: slices.Clone(c.places[i:j]),
		Grams:   mass(run),
		Centre:  centre(run),
		Cost:    c.costs[i][j],
	}
}

// lineCost returns the cost of a run of fleeces, or none if it is no line. As
// a run is sorted, its first and its last fleece tell how much it mixes. The
// cost of all fleeces is at most 128 * 2^30 * 10^4, below 2^51.
func lineCost(run []api.Fleece, spec api.Spec) int {
	first, last := run[0], run[len(run)-1]
	if first.Kind != last.Kind || last.Micron-first.Micron > spec.Spread || mass(run) < spec.Least {
		return none
	}
	middle, cost := centre(run), 0
	for _, f := range run {
		cost += f.Grams * max(f.Micron-middle, middle-f.Micron)
	}
	return cost
}

// centre returns the Micron at which half of the mass of a run is reached.
func centre(run []api.Fleece) int {
	i, reached, all := 0, run[0].Grams, mass(run)
	for 2*reached < all {
		i++
		reached += run[i].Grams
	}
	return run[i].Micron
}

// mass returns the mass of a run.
func mass(run []api.Fleece) int {
	sum := 0
	for _, f := range run {
		sum += f.Grams
	}
	return sum
}

// isLess reports whether the first cost is less; none is more than any other.
func isLess(a, b int) bool { return a != none && (b == none || a < b) }
