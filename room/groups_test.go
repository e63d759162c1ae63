package room

import (
	"slices"
	"testing"

	"merino/api"
)

// The document's Ways: rooms run together if they share a buyer, and only
// then. What Run returns cannot show the latter.
func TestGroups(t *testing.T) {
	bid := func(buyer, lot string) api.Job { return api.Job{What: api.JobBid, Buyer: buyer, Lot: lot, Price: 5} }
	for i, c := range []struct {
		before, jobs []api.Job
		want         []int
	}{
		{nil, nil, []int{0, 1, 2, 3}},
		{nil, []api.Job{bid("a", "l1"), bid("b", "l2"), bid("c", "l3"), bid("a", "l1")}, []int{0, 1, 2, 3}},
		{nil, []api.Job{bid("a", "l2"), bid("b", "l3"), bid("a", "l4")}, []int{0, 1, 2, 1}},
		{nil, []api.Job{bid("a", "l4"), bid("a", "l3"), bid("b", "l3"), bid("b", "l2")}, []int{0, 1, 1, 1}},
		{nil, []api.Job{bid("a", "l4"), bid("a", "l3"), bid("b", "l1"), bid("b", "l2")}, []int{0, 0, 2, 2}},
		{nil, []api.Job{bid("a", "l4"), bid("a", "l3"), bid("b", "l1"), bid("b", "l2"), bid("a", "l2")}, []int{0, 0, 0, 0}},
		// Limits that were there before.
		{[]api.Job{bid("a", "l1"), bid("a", "l3")}, nil, []int{0, 1, 0, 3}},
		{[]api.Job{bid("a", "l3"), bid("b", "l2")}, []api.Job{bid("b", "l4"), bid("a", "l3")}, []int{0, 1, 2, 1}},
		{[]api.Job{bid("a", "l3"), bid("b", "l2")}, []api.Job{bid("b", "l3")}, []int{0, 1, 1, 3}},
		// Other jobs that name a buyer, and those that name none.
		{nil, []api.Job{bid("a", "l2"), {What: api.JobAccept, Buyer: "a", Lot: "l3"}}, []int{0, 1, 1, 3}},
		{nil, []api.Job{bid("a", "l2"), {What: api.JobDecline, Buyer: "a", Lot: "l3"}}, []int{0, 1, 1, 3}},
		{nil, []api.Job{
			bid("a", "l2"), {What: api.JobStart, Room: 3, Buyer: "a"}, {What: api.JobKnock, Room: 3, Buyer: "a", Lot: "l3"},
			{What: api.JobWithdraw, Lot: "l4", Buyer: "a"}, {What: api.JobLower, Lot: "l4", Buyer: "a"}, {Lot: "l4", Buyer: "a"},
		}, []int{0, 1, 2, 3}},
	} {
		s, _ := New(4)
		for _, b := range []string{"a", "b", "c"} {
			s.Buyer(b, 1000)
		}
		for i, lot := range []string{"l1", "l2", "l3", "l4"} {
			s.Enter(api.Entry{Lot: lot, Room: i + 1, Kilos: 1, Open: 1, Reserve: 2})
		}
		for _, j := range c.before {
			s.Do(j)
		}
		if got := s.groups(c.jobs); !slices.Equal(got, c.want) {
			t.Error(i, got, "want:", c.want)
		}
	}
}
