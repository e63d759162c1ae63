package num_test

import (
	"fmt"
	"testing"

	"merino/api"
	"merino/num"
)

// answers calls every function of the package with arguments made of a, b, c
// and mode, and returns what they answer.
func answers(a, b, c, mode int) []string {
	f, g := fr(a, b), fr(c, a)
	list := []int{a, b, c}
	text := fmt.Sprint(a, "/", b)
	decimal := fmt.Sprint(a, ".", b)
	var all []string
	say := func(results ...any) { all = append(all, fmt.Sprint(results...)) }
	answer := func(r any, e api.Errno) { say(r, e) }
	say(num.Valid(f))
	answer(num.Make(a, b))
	answer(num.Neg(f))
	answer(num.Add(f, g))
	answer(num.Sub(f, g))
	answer(num.Mul(f, g))
	answer(num.Div(f, g))
	answer(num.Cmp(f, g))
	answer(num.Round(f, mode))
	answer(num.Scale(c, f, mode))
	answer(num.MulDiv(a, b, c, mode))
	answer(num.Mean(list, []int{c, b, a}, mode))
	answer(num.Path(f))
	answer(num.FromPath(list))
	answer(num.Between(f, g))
	answer(num.Best(a, b, c))
	answer(num.Apportion(a, []int{b, c}))
	answer(num.Divide(a, []int{b, c}))
	answer(num.Fair([]int{a, b}, []int{b, c}))
	answer(num.Text(f))
	answer(num.Parse(text))
	answer(num.Decimal(a, mode))
	answer(num.ParseDecimal(decimal, mode))
	return all
}

// P1 and P2 of the document: every call ends without a panic, whatever its
// arguments, and answers the same when it is made again.
func TestEveryCallAnswers(t *testing.T) {
	for i, a := range hostile {
		for j, b := range hostile {
			c, mode := hostile[(i+3*j)%len(hostile)], (i+j)%8-1
			first := answers(a, b, c, mode)
			second := answers(a, b, c, mode)
			for k := range first {
				if first[k] != second[k] {
					t.Error(a, b, c, mode, first[k], second[k])
				}
			}
		}
	}
}
