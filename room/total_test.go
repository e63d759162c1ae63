package room_test

import (
	"fmt"
	"slices"
	"testing"

	"merino/api"
	"merino/room"
)

// answers calls every function of the package with arguments made of a, b and
// c, and returns what they answer.
func answers(a, b, c int) []string {
	var all []string
	say := func(results ...any) { all = append(all, fmt.Sprint(results...)) }
	answer := func(r any, e api.Errno) { say(r, e) }
	made, e := room.New(a)
	say(made != nil, e)
	busy, _ := room.New(2)
	busy.Buyer("a", api.MaxAmount)
	busy.Buyer("b", api.MaxAmount)
	for i, lot := range lots {
		busy.Enter(api.Entry{Lot: lot, Room: 1 + i%2, Kilos: 1 + i, Open: 1 + i, Reserve: 9})
		busy.Bid("a", lot, 8)
	}
	busy.Start(1)
	busy.Knock(1)
	busy.Start(2)
	for _, s := range []*room.Sale{nil, {}, made, busy} {
		say(s.Buyer("z", a), s.Buyer(string(rune(b)), c))
		say(s.Enter(api.Entry{Lot: "z", Room: a, Kilos: b, Open: c, Reserve: c}))
		say(s.Enter(api.Entry{Lot: "z", Room: 1, Kilos: 1, Open: a, Reserve: b, State: c, Price: c}))
		for i, lot := range append(lots[:4:4], "z", string(rune(a))) {
			answer(s.Turn(lot))
			answer(s.Entry(lot))
			say(s.Bid("b", lot, a), s.Bid("a", lot, b), s.Lower(lot, c))
			leader, price, e := s.Standing(lot)
			say(leader, price, e)
			if i%2 == 0 {
				say(s.Decline("b", lot), s.Withdraw(lot))
			}
			answer(s.Accept("a", lot))
		}
		answer(s.Start(a))
		answer(s.Knock(b))
		answer(s.Entries(c))
		answer(s.Free("a"))
		answer(s.Free(string(rune(c))))
		var jobs []api.Job
		for what := -1; what < 10; what++ {
			j := api.Job{What: what, Room: a, Buyer: "b", Lot: lots[4+what&3], Price: b}
			jobs = append(jobs, j, api.Job{What: c, Room: 1, Buyer: "a", Lot: "z", Price: a})
			say(s.Do(j))
		}
		answer(s.Copy().Run(jobs, a))
		answer(s.Run(jobs, 3))
		answer(s.Copy().Entries(1))
	}
	return append(all, fmt.Sprint(room.Step(a)))
}

// P1 and P2 of the document: every call ends without a panic, whatever its
// arguments, and answers the same when it is made again.
func TestEveryCallAnswers(t *testing.T) {
	for i, a := range hostile {
		for j, b := range hostile {
			c := hostile[(i+5*j)%len(hostile)]
			if first := answers(a, b, c); !slices.Equal(first, answers(a, b, c)) {
				t.Error(a, b, c, first)
			}
		}
	}
}
