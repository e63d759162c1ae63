package stock_test

import (
	"fmt"
	"slices"
	"testing"

	"merino/api"
	"merino/stock"
)

// answers calls every function of the package with arguments made of a, b and
// c, and returns what they answer.
func answers(a, b, c int) []string {
	var all []string
	say := func(results ...any) { all = append(all, fmt.Sprint(results...)) }
	answer := func(r any, e api.Errno) { say(r, e) }
	kind := api.Kind{byte(a), byte(b), byte(c)}
	full := stock.New()
	full.Clip("m", "o")
	for range 4 {
		full.Receive(1, fine, 100)
	}
	full.Lot("l", []int{4})
	full.Undo()
	for _, s := range []*stock.Store{nil, {}, stock.New(), full} {
		answer(s.Clip(string(rune(a)), "m"))
		answer(s.Clip("m", string(rune(b))))
		answer(s.Receive(a, kind, b))
		answer(s.Receive(1, kind, c))
		answer(s.Split(a, b))
		answer(s.Split(1, c))
		answer(s.Merge([]int{a, b, c}))
		answer(s.Merge([]int{1, a}))
		say(s.Core(a, b), s.Core(1, c), s.Weigh(b, c), s.Weigh(1, a), s.Hold(a), s.Release(b), s.Waste(c))
		say(s.Lot("n", []int{a, b, c}), s.Lot("n", []int{a}), s.Unlot("n"), s.Lot("n", []int{3}), s.Send("n"))
		answer(s.Do(api.Move{What: a, No: b, Nos: []int{b, c}, Grams: c, Kind: kind, Name: "p", Owner: "q"}))
		say(s.Undo(), s.Redo(), s.Redo(), s.Version(), s.Moves())
		answer(s.Compare(a, b))
		v, e := s.At(c)
		say(v != nil, e)
		if v == nil {
			v, _ = s.Copy().At(s.Version())
		}
		for _, v := range []*stock.View{{}, v} {
			say(v.Clips(), v.Bales(), v.Lots())
			answer(v.Bale(a))
			answer(v.Lot(string(rune(b))))
			answer(v.Totals(c))
			answer(v.Sources(a))
			answer(v.Heirs(b))
		}
	}
	return all
}

// P1 and P2 of the document: every call ends without a panic, whatever its
// arguments, and answers the same when it is made again.
func TestEveryCallAnswers(t *testing.T) {
	for i, a := range hostile {
		for j, b := range hostile {
			c := hostile[(i+5*j)%len(hostile)]
			if first := answers(a, b, c); !slices.Equal(first, answers(a, b, c)) {
				t.Error(a, b, c, first)
			}
		}
	}
}
