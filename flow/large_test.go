package flow_test

import (
	"fmt"
	"math/big"
	"math/rand/v2"
	"slices"
	"testing"

	"merino/api"
	"merino/flow"
)

// largeNet is a network of about the greatest size, with a need that some
// amounts meet; with few different costs, it has many cheapest flows.
func largeNet(d *rand.Rand) net {
	most := []int{1, 7, 1000, api.MaxCap}[d.IntN(4)]
	limit := []int{0, 1, 3, api.MaxCost}[d.IntN(4)]
	w := net{n: 2 + d.IntN(api.MaxNodes-1)}
	for range api.MaxArcs - d.IntN(3) {
		w.arcs = append(w.arcs, anyArc(d, w.n, most, limit))
	}
	w.need = balance(w.n, w.arcs, anyAmounts(d, w.arcs))
	return w
}

// isGreatest reports whether no flow with the same balance costs less, or as
// much with lexicographically greater amounts. Each unit of an arc is taken to
// cost its Cost and, besides, a bit less the earlier the arc stands, so little
// that all later arcs together do not outweigh it: then no closed walk along
// residual arcs may cost less than 0.
func isGreatest(w net, amounts []int) bool {
	type step struct {
		from, to int
		cost     *big.Int
	}
	var steps []step
	for i, a := range w.arcs {
		c := new(big.Int).Lsh(big.NewInt(int64(a.Cost)), uint(2*len(w.arcs)))
		c.Sub(c, new(big.Int).Lsh(big.NewInt(1), uint(2*(len(w.arcs)-1-i))))
		if amounts[i] < a.Cap {
			steps = append(steps, step{a.From, a.To, c})
		}
		if amounts[i] > 0 {
			steps = append(steps, step{a.To, a.From, new(big.Int).Neg(c)})
		}
	}
	least := make([]*big.Int, w.n)
	for i := range least {
		least[i] = new(big.Int)
	}
	for range w.n {
		isLower := false
		for _, s := range steps {
			if c := new(big.Int).Add(least[s.from], s.cost); c.Cmp(least[s.to]) < 0 {
				least[s.to], isLower = c, true
			}
		}
		if !isLower {
			return true
		}
	}
	return false
}

// P5.1 and P5.8: the flows of large networks, with certificates of their cost
// and of their order.
func TestLargeFlows(t *testing.T) {
	d := dice(6)
	for range 200 {
		w := largeNet(d)
		f, e := flow.Solve(w.n, w.arcs, w.need)
		if e != api.OK || !isFlow(w, f.Amounts) || f.Cost != cost(w.arcs, f.Amounts) || !isGreatest(w, f.Amounts) {
			t.Error(w, f, e)
			continue
		}
		certified(t, w, f.Amounts)
		blocks(t, w, nil, api.OK)
	}
}

// P5.9: a large network without a flow has a block.
func TestLargeBlocks(t *testing.T) {
	d := dice(7)
	none := 0
	for range 200 {
		w := largeNet(d)
		from, to := d.IntN(w.n), d.IntN(w.n)
		more := 1 + d.IntN(1<<d.IntN(44))
		w.need[from] += more
		w.need[to] -= more
		_, e := flow.Solve(w.n, w.arcs, w.need)
		block, blockErr := flow.Block(w.n, w.arcs, w.need)
		if blockErr != api.OK || !slices.IsSorted(block) || e != api.OK && e != api.ErrPlan {
			t.Error(w, e, block, blockErr)
		}
		if (e == api.ErrPlan) != (len(block) > 0) || e == api.ErrPlan && excess(w, bitsOf(block)) <= 0 {
			t.Error(w, e, block)
		}
		none += len(block)
	}
	if none < 50 {
		t.Error(none, "nodes in blocks")
	}
}

// scaled is a network with all caps and needs times k.
func scaled(w net, k int) net {
	s := net{w.n, slices.Clone(w.arcs), slices.Clone(w.need)}
	for i := range s.arcs {
		s.arcs[i].Cap *= k
	}
	for i := range s.need {
		s.need[i] *= k
	}
	return s
}

// turned is a network with all arcs turned around and all needs negated.
func turned(w net) net {
	s := scaled(w, 1)
	for i, a := range w.arcs {
		s.arcs[i].From, s.arcs[i].To = a.To, a.From
	}
	for i := range s.need {
		s.need[i] = -s.need[i]
	}
	return s
}

// P5.10: multiplied, and turned around.
func TestWholeNumbers(t *testing.T) {
	d := dice(8)
	for range 400 {
		w := anyNet(d, 12, 40, 9, 4)
		if d.IntN(10) == 0 {
			w.need[0]++ // ErrSum, multiplied too
		}
		f, e := flow.Solve(w.n, w.arcs, w.need)
		for _, k := range []int{2, 3, 1 + d.IntN(1000), 1 << 30, api.MaxCap / 9} {
			g, manyErr := flow.Solve(w.n, scaled(w, k).arcs, scaled(w, k).need)
			if manyErr != e || g.Cost != k*f.Cost {
				t.Error(w, k, f, e, g, manyErr)
			}
		}
		g, backErr := flow.Solve(w.n, turned(w).arcs, turned(w).need)
		answer(t, turned(w), g, backErr, f, e) // the same amounts, as these are flows of both
	}
}

// P5.1: the greatest amounts and the greatest costs.
func TestGreatestNumbers(t *testing.T) {
	most := api.MaxCap * api.MaxArcs
	wide := slices.Repeat([]api.Arc{arc(0, 1, api.MaxCap, api.MaxCost)}, api.MaxArcs)
	solves(t, net{2, wide, []int{most, -most}}, api.Flow{Amounts: caps(wide), Cost: most * api.MaxCost}, api.OK)
	for i := range wide {
		wide[i].Cost = -api.MaxCost
		if i%2 == 0 {
			wide[i].From, wide[i].To = 1, 0
		}
	}
	solves(t, net{2, wide, []int{0, 0}}, api.Flow{Amounts: caps(wide), Cost: -most * api.MaxCost}, api.OK)
	less := caps(wide)
	less[api.MaxArcs-2]-- // the last arc that leads against the need
	solves(t, net{2, wide, []int{1, -1}}, api.Flow{Amounts: less, Cost: (1 - most) * api.MaxCost}, api.OK)
	var need, block []int
	for i := range api.MaxNodes / 2 {
		need = append(need, api.MaxNeed, -api.MaxNeed)
		block = append(block, 2*i)
	}
	solves(t, net{api.MaxNodes, wide, need}, api.Flow{}, api.ErrPlan)
	blocks(t, net{api.MaxNodes, wide, need}, block, api.OK)
}

// P5.1: the longest way at the greatest cost is a flow where there is no other.
func TestDearestFlow(t *testing.T) {
	w := net{n: api.MaxNodes, need: make([]int, api.MaxNodes)}
	for node := range w.n - 1 {
		w.arcs = append(w.arcs, arc(node, node+1, 2, api.MaxCost))
	}
	w.need[0], w.need[w.n-1] = 2, -2
	solves(t, w, api.Flow{Amounts: caps(w.arcs), Cost: 2 * (api.MaxNodes - 1) * api.MaxCost}, api.OK)
	for i := range w.arcs {
		w.arcs[i].Cost = -api.MaxCost
	}
	w.arcs = append(w.arcs, arc(0, w.n-1, 2, api.MaxCost))
	solves(t, w, api.Flow{Amounts: append(caps(w.arcs[1:]), 0), Cost: -2 * (api.MaxNodes - 1) * api.MaxCost}, api.OK)
}

// ladder is a network in which a search that fills any path as it finds it may
// go to and fro over the narrow arcs, for as many times as the wide ones can
// carry.
func ladder(steps int, d *rand.Rand) net {
	w := net{n: 2*steps + 2, need: make([]int, 2*steps+2)}
	last := w.n - 1
	w.arcs = append(w.arcs, arc(0, 1, api.MaxCap, 0), arc(0, 2, api.MaxCap, 0))
	for i := 1; i+2 < last; i += 2 {
		w.arcs = append(w.arcs, arc(i, i+1, 1, 0), arc(i+1, i, 1, 0), arc(i, i+2, api.MaxCap, 0), arc(i+1, i+3, api.MaxCap, 0))
	}
	w.arcs = append(w.arcs, arc(last-2, last-1, 1, 0), arc(last-2, last, api.MaxCap, 0), arc(last-1, last, api.MaxCap, 0))
	w.need[0], w.need[last] = 2*api.MaxCap, -2*api.MaxCap
	d.Shuffle(len(w.arcs), func(i, j int) { w.arcs[i], w.arcs[j] = w.arcs[j], w.arcs[i] })
	return w
}

// P1: amounts as great as they can be take no more steps than they have bits.
func TestWideAndNarrow(t *testing.T) {
	d := dice(9)
	for range 30 {
		w := ladder(1+d.IntN(15), d)
		f, e := flow.Solve(w.n, w.arcs, w.need)
		if e != api.OK || !isFlow(w, f.Amounts) || !isGreatest(w, f.Amounts) {
			t.Error(w, f, e)
		}
		blocks(t, w, nil, api.OK)
		w.need[0]++
		w.need[w.n-1]--
		solves(t, w, api.Flow{}, api.ErrPlan)
		blocks(t, w, []int{0}, api.OK)
	}
}

// Rule 4 of the document: no call changes its arguments, or answers with
// memory that it or they share.
func TestMemory(t *testing.T) {
	w := triangle(6, 0, -6)
	amounts := []int{3, 3, 3}
	before := fmt.Sprint(w, amounts)
	f, _ := flow.Solve(w.n, w.arcs, w.need)
	b, _ := flow.Balance(w.n, w.arcs, amounts)
	p, _ := flow.Potentials(w.n, w.arcs, amounts)
	flow.Check(w.n, w.arcs, amounts, p)
	none := triangle(9, 0, -9)
	block, _ := flow.Block(none.n, none.arcs, none.need)
	for _, list := range [][]int{f.Amounts, b, p, block} {
		for i := range list {
			list[i] = -7
		}
	}
	equal(t, "the arguments", fmt.Sprint(w, amounts), before)
	TestExamples(t)
}
