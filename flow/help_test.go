package flow_test

import (
	"fmt"
	"math"
	"math/rand/v2"
	"slices"
	"testing"

	"merino/api"
	"merino/flow"
)

// dice gives the same numbers in every run.
func dice(seed uint64) *rand.Rand { return rand.New(rand.NewPCG(seed, 5)) }

// hostile are ints at and round the limits.
var hostile = []int{
	math.MinInt, math.MinInt + 1, -api.MaxAmount - 1, -api.MaxNeed, -api.MaxCost - 1, -api.MaxCost, -1, 0, 1, 2, 3, 7, 8,
	12, 13, 24, 25, 32, 33, api.MaxCount, api.MaxCount + 1, api.MaxMicron, api.MaxMicron + 1, 16384, 16385,
	api.MaxCost, api.MaxCost + 1, api.MaxCap, api.MaxCap + 1, api.MaxNeed, api.MaxNeed + 1, api.MaxAmount,
	math.MaxInt - 1, math.MaxInt,
}

// far is the cost of a walk where there is none.
const far = 1 << 60

// net is a network with a need.
type net struct {
	n    int
	arcs []api.Arc
	need []int
}

// arc is an arc.
func arc(from, to, most, cost int) api.Arc {
	return api.Arc{From: from, To: to, Cap: most, Cost: cost}
}

// triangle is the network of the chapter's first example, with a need.
func triangle(need ...int) net {
	return net{3, []api.Arc{arc(0, 1, 4, 1), arc(1, 2, 3, 1), arc(0, 2, 5, 3)}, need}
}

// anyArc is an arc between any two of n nodes.
func anyArc(d *rand.Rand, n, most, cost int) api.Arc {
	a := arc(d.IntN(n), d.IntN(n-1), d.IntN(most+1), d.IntN(2*cost+1)-cost)
	if a.To >= a.From {
		a.To++
	}
	return a
}

// anyNet is a network with a need that some amounts meet; every other time, a
// few units are wanted elsewhere than these amounts bring them.
func anyNet(d *rand.Rand, nodes, arcs, most, cost int) net {
	w := net{n: 2 + d.IntN(nodes-1)}
	for range d.IntN(arcs + 1) {
		w.arcs = append(w.arcs, anyArc(d, w.n, most, cost))
	}
	w.need = balance(w.n, w.arcs, anyAmounts(d, w.arcs))
	if d.IntN(2) == 0 {
		moved := 1 + d.IntN(most)
		w.need[d.IntN(w.n)] += moved
		w.need[d.IntN(w.n)] -= moved
	}
	return w
}

// anyAmounts is amounts that the arcs can carry.
func anyAmounts(d *rand.Rand, arcs []api.Arc) []int {
	amounts := make([]int, len(arcs))
	for i, a := range arcs {
		amounts[i] = []int{0, a.Cap, d.IntN(a.Cap + 1)}[d.IntN(3)]
	}
	return amounts
}

// balance is Balance, by the words of the chapter.
func balance(n int, arcs []api.Arc, amounts []int) []int {
	sums := make([]int, n)
	for node := range sums {
		for i, a := range arcs {
			if a.From == node {
				sums[node] += amounts[i]
			}
			if a.To == node {
				sums[node] -= amounts[i]
			}
		}
	}
	return sums
}

// cost is the cost of these amounts.
func cost(arcs []api.Arc, amounts []int) int {
	sum := 0
	for i, a := range arcs {
		sum += amounts[i] * a.Cost
	}
	return sum
}

// residual is the residual arcs of these amounts, by the words of the chapter.
func residual(arcs []api.Arc, amounts []int) []api.Arc {
	var all []api.Arc
	for i, a := range arcs {
		if amounts[i] < a.Cap {
			all = append(all, arc(a.From, a.To, 1, a.Cost))
		}
		if amounts[i] > 0 {
			all = append(all, arc(a.To, a.From, 1, -a.Cost))
		}
	}
	return all
}

// every calls do with all lists of numbers from 0 to those of most.
func every(most []int, do func([]int)) {
	list := make([]int, len(most))
	var on func(i int)
	on = func(i int) {
		if i == len(most) {
			do(list)
			return
		}
		for list[i] = 0; list[i] <= most[i]; list[i]++ {
			on(i + 1)
		}
		list[i] = 0
	}
	on(0)
}

// caps is the caps of the arcs.
func caps(arcs []api.Arc) []int {
	var list []int
	for _, a := range arcs {
		list = append(list, a.Cap)
	}
	return list
}

// excess is the excess of a set of nodes, given as bits.
func excess(w net, set int) int {
	sum := 0
	for node, amount := range w.need {
		if set>>node&1 == 1 {
			sum += amount
		}
	}
	for _, a := range w.arcs {
		if set>>a.From&1 == 1 && set>>a.To&1 == 0 {
			sum -= a.Cap
		}
	}
	return sum
}

// bitsOf is nodes as bits.
func bitsOf(nodes []int) int {
	set := 0
	for _, node := range nodes {
		set |= 1 << node
	}
	return set
}

// equal fails the test unless two values print alike.
func equal(t *testing.T, what, got, want any) {
	t.Helper()
	if fmt.Sprint(got) != fmt.Sprint(want) {
		t.Errorf("%v: got %v; want %v", what, got, want)
	}
}

// answer fails the test unless a call answered what was wanted.
func answer(t *testing.T, what, got any, e api.Errno, want any, wantErr api.Errno) {
	t.Helper()
	if fmt.Sprint(got) != fmt.Sprint(want) || e != wantErr {
		t.Errorf("%v: got %v, error %d; want %v, error %d", what, got, e, want, wantErr)
	}
}

// solves fails the test unless Solve answers this.
func solves(t *testing.T, w net, want api.Flow, wantErr api.Errno) {
	t.Helper()
	got, e := flow.Solve(w.n, w.arcs, w.need)
	answer(t, w, got, e, want, wantErr)
}

// blocks fails the test unless Block answers this.
func blocks(t *testing.T, w net, want []int, wantErr api.Errno) {
	t.Helper()
	got, e := flow.Block(w.n, w.arcs, w.need)
	answer(t, w, got, e, want, wantErr)
}

// certified fails the test unless Check of the amounts and of their Potentials is true.
func certified(t *testing.T, w net, amounts []int) {
	t.Helper()
	p, e := flow.Potentials(w.n, w.arcs, amounts)
	if e != api.OK {
		t.Errorf("%v: potentials of %v: error %d", w, amounts, e)
		return
	}
	good, e := flow.Check(w.n, w.arcs, amounts, p)
	answer(t, w, good, e, true, api.OK)
}

// isFlow reports whether these amounts are a flow for the need.
func isFlow(w net, amounts []int) bool {
	if len(amounts) != len(w.arcs) {
		return false
	}
	for i, a := range w.arcs {
		if amounts[i] < 0 || amounts[i] > a.Cap {
			return false
		}
	}
	return slices.Equal(balance(w.n, w.arcs, amounts), w.need)
}
