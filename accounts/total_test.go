package accounts_test

import (
	"fmt"
	"slices"
	"testing"

	"merino/accounts"
	"merino/api"
)

// answers calls every function of the package with arguments made of a, b and
// c, and returns what they answer.
func answers(t *testing.T, a, b, c int) []string {
	var all []string
	say := func(results ...any) { all = append(all, fmt.Sprint(results...)) }
	answer := func(r any, e api.Errno) { say(r, e) }
	answer(accounts.DayOf(date(a, b, c)))
	answer(accounts.DayOf(date(2000+a&31, b, c)))
	answer(accounts.DateOf(a))
	answer(accounts.Working(a, []int{b, c}))
	answer(accounts.Prompt(a, b, []int{c}))
	answer(accounts.Prompt(5, a, nil))
	answer(accounts.Charge(a, scale(b, c, c, a)))
	answer(accounts.Charge(a, scale(1, 2, api.MaxCents, b)))
	answer(accounts.Interest(a, b, c, a))
	answer(accounts.Interest(a, 7, b, c))
	busy := open(t, "a b c")
	post(t, busy, 3, lines("a b", 5, -5)...)
	post(t, busy, 3, lines("b c", 5, -5)...)
	reverse(t, busy, 1, 4)
	for _, l := range []*accounts.Ledger{nil, {}, accounts.New(), busy} {
		say(l.Open("d"), l.Open(string(rune(a))))
		answer(l.Post(a, lines("a b", b, -b)))
		answer(l.Post(4, lines("a b c", a, b, c)))
		answer(l.Post(5, lines("a b d", a, -a-b, b)))
		answer(l.Post(c, nil))
		answer(l.Reverse(a, b))
		answer(l.Reverse(2, c))
		answer(l.Balance("a", a))
		answer(l.Balance("x", b))
		ahead, rows, e := l.Statement("a", a, b)
		say(ahead, rows, e)
		answer(l.Trial(c))
		say(l.Records(), l.Copy().Records())
	}
	records := busy.Records()
	records[1].Day, records[2].No = a, b
	say(accounts.Verify(records), accounts.Verify(records[:2]))
	say(accounts.Verify(append(records, api.Record{No: a, Day: b, Reverses: c, Postings: lines("x", a)})))
	for _, owed := range [][][]int{{{a}}, {{0, a}, {b, 0}}, {{0, a, 3}, {b, 0, 4}, {c, 1, 0}}, {{0, a}, {b, c}}, {{0}, {a, b}}} {
		answer(accounts.Nets(owed))
		left, cancelled, e := accounts.Compress(owed)
		say(left, cancelled, e)
	}
	return all
}

// P1 and P2 of the document: every call ends without a panic, whatever its
// arguments, and answers the same when it is made again.
func TestEveryCallAnswers(t *testing.T) {
	for i, a := range hostile {
		for j, b := range hostile {
			c := hostile[(i+5*j)%len(hostile)]
			if first := answers(t, a, b, c); !slices.Equal(first, answers(t, a, b, c)) {
				t.Error(a, b, c, first)
			}
		}
	}
}
