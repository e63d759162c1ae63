package press_test

import (
	"fmt"
	"slices"
	"testing"

	"merino/api"
	"merino/press"
)

// answers calls every function of the package with arguments made of a, b and
// c, and returns what they answer.
func answers(a, b, c int) []string {
	var all []string
	say := func(results ...any) { all = append(all, fmt.Sprint(results...)) }
	number := func(n int, e api.Errno) { say(n, e) }
	list := func(l []int, n int, e api.Errno) { say(l, n, e) }
	for _, list := range [][]int{{a, b}, {a, b, b, c, c, a}, {1, a, b, 1, a, a}, slices.Repeat([]int{a, b}, 64), make([]int, 130)} {
		dumps := dumps(list...)
		order, end, e := press.Sequence(dumps)
		say(order, end, e)
		for _, order := range [][]int{nil, {0}, {a, b, c}, {0, a, b}, {2, 1, 0}, upTo(64)} {
			number(press.Makespan(dumps, order))
			number(press.Critical(dumps, order))
		}
		done, late, e := press.OnTime(tasks(list...))
		say(done, late, e)
	}
	for _, numbers := range [][]int{nil, {a}, {a, b, c}, {1, a, 2, b, 3, c}, slices.Repeat([]int{a, b, c}, 4), make([]int, 13)} {
		for _, most := range []int{a, b, c, 3, 4, api.MaxMass} {
			list(press.Share(numbers, most))
			list(press.Longest(numbers, most))
			for _, each := range []int{a, 3, 12} {
				list(press.Pack(numbers, most, each))
			}
			number(press.Bound(numbers, most))
		}
	}
	return all
}

// P1 and P2 of the document: every call ends without a panic, whatever its
// arguments, and answers the same when it is made again.
func TestEveryCallAnswers(t *testing.T) {
	for i, a := range hostile {
		for j, b := range hostile {
			c := hostile[(i+5*j)%len(hostile)]
			if first := answers(a, b, c); !slices.Equal(first, answers(a, b, c)) {
				t.Error(a, b, c, first)
			}
		}
	}
}
