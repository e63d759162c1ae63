package flow_test

import (
	"fmt"
	"math"
	"slices"
	"testing"

	"merino/api"
	"merino/flow"
)

// The chapter's first and second examples.
func TestExamples(t *testing.T) {
	w := triangle(6, 0, -6)
	solves(t, w, api.Flow{Amounts: []int{3, 3, 3}, Cost: 15}, api.OK)
	blocks(t, w, nil, api.OK)
	solves(t, triangle(9, 0, -9), api.Flow{}, api.ErrPlan)
	blocks(t, triangle(9, 0, -9), []int{0, 1}, api.OK)
	p, e := flow.Potentials(3, w.arcs, []int{3, 3, 3})
	answer(t, "potentials", p, e, []int{-3, -2, 0}, api.OK)
	good, e := flow.Check(3, w.arcs, []int{3, 3, 3}, p)
	answer(t, "check", good, e, true, api.OK)
	b, e := flow.Balance(3, w.arcs, []int{3, 3, 3})
	answer(t, "balance", b, e, []int{6, 0, -6}, api.OK)
}

// P5.1: small cases whose answers are plain.
func TestSolve(t *testing.T) {
	for _, c := range []struct {
		w       net
		amounts []int
		cost    int
		err     api.Errno
	}{
		{net{1, nil, []int{0}}, nil, 0, api.OK},
		{net{2, nil, []int{0, 0}}, nil, 0, api.OK},
		{net{2, nil, []int{1, -1}}, nil, 0, api.ErrPlan},
		{net{2, []api.Arc{arc(1, 0, 5, 0)}, []int{1, -1}}, nil, 0, api.ErrPlan},
		{net{2, []api.Arc{arc(0, 1, 5, 7)}, []int{5, -5}}, []int{5}, 35, api.OK},
		{net{2, []api.Arc{arc(0, 1, 5, 7)}, []int{6, -6}}, nil, 0, api.ErrPlan},
		// Of several arcs alike, the first ones carry.
		{net{2, []api.Arc{arc(0, 1, 2, 1), arc(0, 1, 2, 1), arc(0, 1, 2, 1)}, []int{3, -3}}, []int{2, 1, 0}, 3, api.OK},
		{net{2, []api.Arc{arc(0, 1, 2, 1), arc(0, 1, 2, 0), arc(0, 1, 2, 1)}, []int{3, -3}}, []int{1, 2, 0}, 1, api.OK},
		// A cycle that costs nothing is filled, as its amounts are greater.
		{net{2, []api.Arc{arc(0, 1, 4, 3), arc(1, 0, 3, -3)}, []int{0, 0}}, []int{3, 3}, 0, api.OK},
		{net{2, []api.Arc{arc(0, 1, 4, 0), arc(1, 0, 3, 0)}, []int{1, -1}}, []int{4, 3}, 0, api.OK},
		// A cycle below 0 is filled, and one above 0 is not.
		{net{2, []api.Arc{arc(0, 1, 4, 3), arc(1, 0, 3, -4)}, []int{0, 0}}, []int{3, 3}, -3, api.OK},
		{net{2, []api.Arc{arc(0, 1, 4, 3), arc(1, 0, 3, -2)}, []int{0, 0}}, []int{0, 0}, 0, api.OK},
		// The first arc takes what it can even where all others must give way.
		{net{3, []api.Arc{arc(0, 2, 9, 2), arc(0, 1, 9, 1), arc(1, 2, 9, 1)}, []int{9, 0, -9}}, []int{9, 0, 0}, 18, api.OK},
		{net{3, []api.Arc{arc(0, 1, 9, 1), arc(0, 2, 9, 2), arc(1, 2, 9, 1)}, []int{9, 0, -9}}, []int{9, 0, 9}, 18, api.OK},
		// What may be sent farther for less is.
		{net{3, []api.Arc{arc(0, 1, 9, 0), arc(0, 2, 9, 5), arc(1, 2, 4, 4)}, []int{9, -3, -6}}, []int{7, 2, 4}, 26, api.OK},
	} {
		solves(t, c.w, api.Flow{Amounts: c.amounts, Cost: c.cost}, c.err)
	}
}

// isBetter reports whether amounts cost less than others, or as much and are
// lexicographically greater.
func isBetter(arcs []api.Arc, amounts, others []int) bool {
	less := cost(arcs, amounts) - cost(arcs, others)
	return less < 0 || less == 0 && slices.Compare(amounts, others) > 0
}

// P5.1 and P5.9: of small networks, the flow is what a search of all amounts
// finds, and there is one or else a block with an excess above 0.
func TestSolveIsTheCheapest(t *testing.T) {
	d := dice(1)
	found := 0
	for range 3000 {
		w := anyNet(d, 4, 6, 3, 2)
		var best []int
		every(caps(w.arcs), func(amounts []int) {
			if isFlow(w, amounts) && (best == nil || isBetter(w.arcs, amounts, best)) {
				best = append([]int{}, amounts...)
			}
		})
		if best == nil {
			solves(t, w, api.Flow{}, api.ErrPlan)
		} else {
			solves(t, w, api.Flow{Amounts: best, Cost: cost(w.arcs, best)}, api.OK)
			found++
		}
		block, e := flow.Block(w.n, w.arcs, w.need)
		if e != api.OK || (best == nil) != (len(block) > 0) || best == nil && excess(w, bitsOf(block)) <= 0 {
			t.Error(w, best, block, e)
		}
	}
	if found < 500 || found > 2500 {
		t.Error(found, "of the networks have a flow")
	}
}

// P5.2 and P5.9: the block is the intersection of all sets with the greatest
// excess, by a search of all sets.
func TestBlockIsTheSmallest(t *testing.T) {
	d := dice(2)
	several := 0
	for range 2000 {
		w := anyNet(d, 8, 16, []int{1, 2, 9, api.MaxCap}[d.IntN(4)], 3)
		if d.IntN(4) == 0 { // a few units where only few arcs lead
			w.need = make([]int, w.n)
			for range w.n {
				w.need[d.IntN(w.n)]++
				w.need[d.IntN(w.n)]--
			}
		}
		most, common, sets := math.MinInt, 0, 0
		for set := range 1 << w.n {
			switch e := excess(w, set); {
			case e > most:
				most, common, sets = e, set, 1
			case e == most:
				common &= set
				sets++
			}
		}
		if sets > 1 && common != 0 {
			several++
		}
		var want []int
		for node := range w.n {
			if common>>node&1 == 1 {
				want = append(want, node)
			}
		}
		blocks(t, w, want, api.OK)
		if _, e := flow.Solve(w.n, w.arcs, w.need); (e == api.OK) != (len(want) == 0) || (e == api.ErrPlan) != (most > 0) {
			t.Error(w, e, want, most)
		}
	}
	if several < 100 {
		t.Error(several, "blocks were one of several sets")
	}
}

// P5.2: small cases whose answers are plain.
func TestBlock(t *testing.T) {
	path := []api.Arc{arc(0, 1, 4, -3), arc(1, 2, 3, 9), arc(2, 3, 3, 0)}
	for _, c := range []struct {
		w     net
		block []int
	}{
		{net{1, nil, []int{0}}, nil},
		{net{2, nil, []int{1, -1}}, []int{0}},
		{net{2, nil, []int{-1, 1}}, []int{1}},
		{net{4, path, []int{4, 0, 0, -4}}, []int{0, 1}}, // not 0, 1 and 2, which has the same excess
		{net{4, path, []int{5, 0, 0, -5}}, []int{0, 1}},
		{net{4, path, []int{-1, 0, 0, 1}}, []int{3}},
		{net{4, path, []int{4, -1, 0, -3}}, nil},
		{net{4, path, []int{3, 0, 0, -3}}, nil},
		{net{4, nil, []int{1, -1, 1, -1}}, []int{0, 2}},
		{net{4, []api.Arc{arc(0, 1, 1, 0)}, []int{1, -1, 1, -1}}, []int{2}},
	} {
		blocks(t, c.w, c.block, api.OK)
	}
}

// P5.3: the balance, by the words of the chapter.
func TestBalance(t *testing.T) {
	d := dice(3)
	for range 300 {
		w := anyNet(d, api.MaxNodes, api.MaxArcs, api.MaxCap, 5)
		amounts := anyAmounts(d, w.arcs)
		got, e := flow.Balance(w.n, w.arcs, amounts)
		answer(t, w, got, e, balance(w.n, w.arcs, amounts), api.OK)
	}
	wide := slices.Repeat([]api.Arc{arc(1, 0, api.MaxCap, 0)}, api.MaxArcs)
	got, e := flow.Balance(2, wide, caps(wide))
	answer(t, "the most", got, e, []int{-api.MaxNeed, api.MaxNeed}, api.OK)
	got, e = flow.Balance(1, nil, nil)
	answer(t, "one node", got, e, []int{0}, api.OK)
}

// walks is the least cost of a walk from each node to each other one along
// arcs, and whether a closed walk costs less than 0.
func walks(n int, arcs []api.Arc) ([][]int, bool) {
	least := make([][]int, n)
	for i := range least {
		least[i] = slices.Repeat([]int{far}, n)
		least[i][i] = 0
	}
	for _, a := range arcs {
		least[a.From][a.To] = min(least[a.From][a.To], a.Cost)
	}
	for k := range n {
		for i := range n {
			for j := range n {
				if least[i][k] < far && least[k][j] < far {
					least[i][j] = min(least[i][j], least[i][k]+least[k][j])
				}
			}
			if least[i][i] < 0 {
				return nil, true
			}
		}
	}
	return least, false
}

// P5.4: the potentials, by all pairs of nodes.
func TestPotentials(t *testing.T) {
	d := dice(4)
	good := 0
	for range 3000 {
		nodes, limit := []int{3, 8, api.MaxNodes}[d.IntN(3)], []int{1, 5, api.MaxCost}[d.IntN(3)]
		w := anyNet(d, nodes, 3*nodes, 3, limit)
		amounts := anyAmounts(d, w.arcs)
		if f, e := flow.Solve(w.n, w.arcs, balance(w.n, w.arcs, amounts)); e == api.OK && d.IntN(2) == 0 {
			amounts = f.Amounts
		}
		got, e := flow.Potentials(w.n, w.arcs, amounts)
		least, bad := walks(w.n, residual(w.arcs, amounts))
		if bad {
			answer(t, w, got, e, []int{}, api.ErrPlan)
			continue
		}
		good++
		want := make([]int, w.n)
		for _, row := range least {
			for node := range row {
				want[node] = min(want[node], row[node])
			}
		}
		answer(t, w, got, e, want, api.OK)
	}
	if good < 1000 || good > 2800 {
		t.Error(good, "amounts have potentials")
	}
}

// P5.4: the longest walks, whichever way the arcs are listed.
func TestPotentialsOfLongWalks(t *testing.T) {
	n := api.MaxNodes
	var arcs []api.Arc
	want := make([]int, n)
	for node := 1; node < n; node++ {
		arcs = append(arcs, arc(node-1, node, 1, -api.MaxCost))
		want[node] = -node * api.MaxCost
	}
	for range 2 {
		got, e := flow.Potentials(n, arcs, make([]int, n-1))
		answer(t, "a path", got, e, want, api.OK)
		slices.Reverse(arcs)
	}
	for _, c := range []struct {
		cost int
		err  api.Errno
	}{{-api.MaxCost, api.ErrPlan}, {0, api.ErrPlan}, {api.MaxCost, api.ErrPlan}} {
		_, e := flow.Potentials(n, append(arcs, arc(n-1, 0, 1, c.cost)), make([]int, n))
		answer(t, "a cycle", 0, e, 0, c.err)
	}
	for i := range arcs {
		arcs[i].Cost = -1
	}
	for _, c := range []struct {
		cost int
		err  api.Errno
	}{{n - 2, api.ErrPlan}, {n - 1, api.OK}, {n, api.OK}} {
		_, e := flow.Potentials(n, append(arcs, arc(n-1, 0, 1, c.cost)), make([]int, n))
		answer(t, c.cost, 0, e, 0, c.err)
	}
}

// P5.5 and P5.8: Check, by the words of the chapter; and where it is true, no
// flow with the same balance costs less.
func TestCheck(t *testing.T) {
	d := dice(5)
	count := map[bool]int{}
	for range 4000 {
		w := anyNet(d, 4, 5, 3, 2)
		amounts := anyAmounts(d, w.arcs)
		need := balance(w.n, w.arcs, amounts)
		best, e := flow.Solve(w.n, w.arcs, need)
		if e != api.OK {
			t.Fatal(w, amounts, e)
		}
		potentials := make([]int, w.n)
		for i := range potentials {
			potentials[i] = d.IntN(7) - 3
		}
		if p, e := flow.Potentials(w.n, w.arcs, amounts); e == api.OK && d.IntN(2) == 0 {
			potentials = p
			potentials[d.IntN(w.n)] += d.IntN(3) - 1
		}
		want := true
		for _, a := range residual(w.arcs, amounts) {
			want = want && potentials[a.To] <= potentials[a.From]+a.Cost
		}
		got, e := flow.Check(w.n, w.arcs, amounts, potentials)
		answer(t, w, got, e, want, api.OK)
		count[got]++
		if got && cost(w.arcs, amounts) != best.Cost {
			t.Error(w, amounts, potentials, "but", best)
		}
	}
	if count[true] < 500 || count[false] < 500 {
		t.Error(count)
	}
}

// P5.5: potentials at their limits.
func TestCheckOfGreatPotentials(t *testing.T) {
	arcs := []api.Arc{arc(0, 1, 1, api.MaxCost)}
	for _, c := range []struct {
		potentials []int
		good       bool
		err        api.Errno
	}{
		{[]int{api.MaxAmount, api.MaxAmount}, true, api.OK},
		{[]int{-api.MaxAmount, -api.MaxAmount}, true, api.OK},
		{[]int{api.MaxAmount, -api.MaxAmount}, true, api.OK},
		{[]int{-api.MaxAmount, api.MaxAmount}, false, api.OK},
		{[]int{5, 5 + api.MaxCost}, true, api.OK},
		{[]int{5, 6 + api.MaxCost}, false, api.OK},
		{[]int{api.MaxAmount + 1, 0}, false, api.ErrArg},
		{[]int{0, api.MaxAmount + 1}, false, api.ErrArg},
		{[]int{-api.MaxAmount - 1, 0}, false, api.ErrArg},
		{[]int{0, -api.MaxAmount - 1}, false, api.ErrArg},
		{[]int{math.MinInt, math.MaxInt}, false, api.ErrArg},
		{[]int{0}, false, api.ErrArg},
		{[]int{0, 0, 0}, false, api.ErrArg},
		{nil, false, api.ErrArg},
	} {
		good, e := flow.Check(2, arcs, []int{0}, c.potentials)
		answer(t, c.potentials, good, e, c.good, c.err)
	}
	good, e := flow.Check(1, nil, nil, []int{3})
	answer(t, "one node", good, e, true, api.OK)
	good, e = flow.Check(2, []api.Arc{arc(0, 1, 0, -5)}, []int{0}, []int{0, 0})
	answer(t, "an arc that carries nothing", good, e, true, api.OK)
}

// notNets are networks that are not valid, with the error of all functions.
var notNets = []struct {
	n    int
	arcs []api.Arc
	err  api.Errno
}{
	{0, nil, api.ErrArg},
	{-1, nil, api.ErrArg},
	{math.MinInt, nil, api.ErrArg},
	{33, nil, api.ErrArg},
	{math.MaxInt, nil, api.ErrArg},
	{0, make([]api.Arc, 129), api.ErrArg},
	{2, make([]api.Arc, 129), api.ErrLimit},
	{2, slices.Repeat([]api.Arc{arc(0, 1, 1, 1)}, 129), api.ErrLimit},
	{1, []api.Arc{arc(0, 0, 1, 1)}, api.ErrArg},
	{2, []api.Arc{arc(1, 1, 1, 1)}, api.ErrArg},
	{2, []api.Arc{arc(-1, 1, 1, 1)}, api.ErrArg},
	{2, []api.Arc{arc(1, -1, 1, 1)}, api.ErrArg},
	{2, []api.Arc{arc(2, 1, 1, 1)}, api.ErrArg},
	{2, []api.Arc{arc(1, 2, 1, 1)}, api.ErrArg},
	{2, []api.Arc{arc(0, math.MaxInt, 1, 1)}, api.ErrArg},
	{2, []api.Arc{arc(math.MinInt, 0, 1, 1)}, api.ErrArg},
	{2, []api.Arc{arc(0, 1, -1, 1)}, api.ErrArg},
	{2, []api.Arc{arc(0, 1, api.MaxCap+1, 1)}, api.ErrArg},
	{2, []api.Arc{arc(0, 1, math.MaxInt, 1)}, api.ErrArg},
	{2, []api.Arc{arc(0, 1, math.MinInt, 1)}, api.ErrArg},
	{2, []api.Arc{arc(0, 1, 1, api.MaxCost+1)}, api.ErrArg},
	{2, []api.Arc{arc(0, 1, 1, -api.MaxCost-1)}, api.ErrArg},
	{2, []api.Arc{arc(0, 1, 1, math.MinInt)}, api.ErrArg},
	{2, []api.Arc{arc(0, 1, 1, 1), arc(1, 0, 1, 1), arc(1, 0, 1, math.MaxInt)}, api.ErrArg},
}

// P5.1 to P5.5: all functions refuse a network first of all, even if the other
// arguments are wrong too.
func TestNetworkErrors(t *testing.T) {
	for _, c := range notNets {
		for _, list := range [][]int{nil, {1, 2}, {0}, {-1, math.MaxInt}} {
			what := fmt.Sprint(c.n, len(c.arcs), list)
			w := net{c.n, c.arcs, list}
			solves(t, w, api.Flow{}, c.err)
			blocks(t, w, nil, c.err)
			b, e := flow.Balance(c.n, c.arcs, list)
			answer(t, what, b, e, []int{}, c.err)
			p, e := flow.Potentials(c.n, c.arcs, list)
			answer(t, what, p, e, []int{}, c.err)
			good, e := flow.Check(c.n, c.arcs, list, list)
			answer(t, what, good, e, false, c.err)
		}
	}
}

// P5.1 and P5.2: the errors of a need, in their order; the greatest need is
// allowed.
func TestNeedErrors(t *testing.T) {
	arcs := []api.Arc{arc(0, 1, 5, 1)}
	for _, c := range []struct {
		need []int
		err  api.Errno
	}{
		{nil, api.ErrArg},
		{[]int{0}, api.ErrArg},
		{[]int{0, 0, 0}, api.ErrArg},
		{[]int{1}, api.ErrArg},
		{[]int{api.MaxNeed + 1, -api.MaxNeed - 1}, api.ErrArg},
		{[]int{-api.MaxNeed - 1, api.MaxNeed}, api.ErrArg},
		{[]int{-api.MaxNeed, api.MaxNeed + 1}, api.ErrArg},
		{[]int{math.MinInt, math.MinInt}, api.ErrArg},
		{[]int{math.MaxInt, -math.MaxInt}, api.ErrArg},
		{[]int{1, 0}, api.ErrSum},
		{[]int{api.MaxNeed, api.MaxNeed}, api.ErrSum},
		{[]int{6, -5}, api.ErrSum},
	} {
		solves(t, net{2, arcs, c.need}, api.Flow{}, c.err)
		blocks(t, net{2, arcs, c.need}, nil, c.err)
	}
	w := net{2, arcs, []int{api.MaxNeed, -api.MaxNeed}}
	solves(t, w, api.Flow{}, api.ErrPlan)
	blocks(t, w, []int{0}, api.OK)
}

// P5.3 to P5.5: the errors of amounts, in their order.
func TestAmountErrors(t *testing.T) {
	arcs := []api.Arc{arc(0, 1, 5, -1), arc(1, 0, api.MaxCap, -1)}
	for _, amounts := range [][]int{
		nil, {0}, {0, 0, 0}, {-1, 0}, {6, 0}, {0, -1}, {0, api.MaxCap + 1}, {math.MaxInt, 0}, {0, math.MinInt},
	} {
		b, e := flow.Balance(2, arcs, amounts)
		answer(t, amounts, b, e, []int{}, api.ErrArg)
		p, e := flow.Potentials(2, arcs, amounts)
		answer(t, amounts, p, e, []int{}, api.ErrArg)
		good, e := flow.Check(2, arcs, amounts, []int{0, 0})
		answer(t, amounts, good, e, false, api.ErrArg)
	}
	_, e := flow.Potentials(2, arcs, []int{0, 0})
	answer(t, "a cycle", 0, e, 0, api.ErrPlan)
	p, e := flow.Potentials(2, arcs, []int{5, api.MaxCap})
	answer(t, "full", p, e, []int{0, 0}, api.OK)
	good, e := flow.Check(2, arcs, []int{5, api.MaxCap}, []int{0, 0})
	answer(t, "full", good, e, true, api.OK)
}
