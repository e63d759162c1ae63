package flow_test

import (
	"fmt"
	"slices"
	"testing"

	"merino/api"
	"merino/flow"
)

// answers calls every function of the package with arguments made of a, b and
// c, and returns what they answer.
func answers(a, b, c int) []string {
	var all []string
	say := func(results ...any) { all = append(all, fmt.Sprint(results...)) }
	answer := func(r any, e api.Errno) { say(r, e) }
	for _, w := range []net{
		{a, []api.Arc{arc(0, 1, b, c)}, []int{b, c}},
		{2, []api.Arc{arc(a, b, c, c)}, []int{a, b}},
		{3, []api.Arc{arc(0, 1, a, b), arc(1, 2, b, c), arc(2, 0, c, a), arc(0, 2, 5, c)}, []int{a, -a, 0}},
		{2, []api.Arc{arc(0, 1, 3, a), arc(1, 0, 3, b)}, []int{c, -c}},
		{1, nil, []int{a}},
	} {
		answer(flow.Solve(w.n, w.arcs, w.need))
		answer(flow.Block(w.n, w.arcs, w.need))
		for _, amounts := range [][]int{nil, {a, b, c}, {c}, {1, 2}, caps(w.arcs), make([]int, len(w.arcs))} {
			answer(flow.Balance(w.n, w.arcs, amounts))
			answer(flow.Potentials(w.n, w.arcs, amounts))
			answer(flow.Check(w.n, w.arcs, amounts, []int{a, b, c}))
			answer(flow.Check(w.n, w.arcs, amounts, []int{b, c}))
		}
	}
	parcels := []api.Parcel{{Bales: a, Price: b, Micron: c, Veg: a, Store: b}, {Bales: 5, Micron: 3}, {Bales: b, Price: a, Veg: c}}
	wants := []api.Want{{Bales: b, Price: c, Low: a, High: b, Veg: c, Port: a}, {Bales: c, High: 9}, {Bales: 3, Price: a, High: b, Veg: c}}
	for i := range parcels {
		for j := range wants {
			say(flow.Suits(parcels[i], wants[j]))
			answer(flow.Fill(parcels[i:], wants[j:], api.Tariff{{a, b}, {c}}))
			answer(flow.Fill(parcels[i:i+1], wants[j:], api.Tariff{{1, 2}}))
			answer(flow.Fill(parcels[1:i+1], wants[1:j+1], api.Tariff{}))
		}
		amounts, sum, e := flow.Blend(parcels[i:], a, b, c)
		say(amounts, sum, e)
		amounts, sum, e = flow.Blend(parcels[i:], 24, a, c)
		say(amounts, sum, e)
	}
	return all
}

// P1 and P2 of the document: every call ends without a panic, whatever its
// arguments, and answers the same when it is made again.
func TestEveryCallAnswers(t *testing.T) {
	for i, a := range hostile {
		for j, b := range hostile {
			c := hostile[(i+5*j)%len(hostile)]
			if first := answers(a, b, c); !slices.Equal(first, answers(a, b, c)) {
				t.Error(a, b, c, first)
			}
		}
	}
}
