package room_test

import (
	"slices"
	"testing"

	"merino/api"
	"merino/room"
)

// P6.6: Do returns the entry as it is behind the job, or the error alone.
func TestDo(t *testing.T) {
	s := hall(t, 2, entry("l", 1, 10, 90), entry("m", 1, 10, 20), entry("n", 2, 10, 30))
	after := func(e api.Entry, state int, buyer string, price int) api.Entry {
		e.State, e.Buyer, e.Price = state, buyer, price
		return e
	}
	l, m, n := entry("l", 1, 10, 90), entry("m", 1, 10, 20), entry("n", 2, 10, 30)
	low := entry("l", 1, 10, 80)
	for _, c := range []struct {
		job  api.Job
		want api.Entry
		err  api.Errno
	}{
		{bid("a", "l", 40), l, 0},
		{bid("b", "l", 50), l, 0},
		{bid("b", "l", 50), api.Entry{}, api.ErrPrice},
		{bid("x", "l", 50), api.Entry{}, api.ErrNone},
		{bid("b", "l", 0), api.Entry{}, api.ErrArg},
		{bid("b", "n", 9999), api.Entry{}, api.ErrCredit},
		{start(1), after(l, api.EntryOpen, "", 0), 0},
		{bid("c", "l", 45), after(l, api.EntryOpen, "", 0), 0},
		{start(1), api.Entry{}, api.ErrState},
		{start(3), api.Entry{}, api.ErrArg},
		{lower("l", 80), api.Entry{}, api.ErrState},
		{withdraw("l"), api.Entry{}, api.ErrState},
		{knock(2), api.Entry{}, api.ErrState},
		{knock(1), after(l, api.EntryPassed, "", 0), 0},
		{knock(0), api.Entry{}, api.ErrArg},
		{lower("l", 80), after(low, api.EntryPassed, "", 0), 0},
		{lower("l", 80), api.Entry{}, api.ErrArg},
		{decline("b", "l"), after(low, api.EntryPassed, "", 0), 0},
		{decline("b", "l"), api.Entry{}, api.ErrTurn},
		{accept("a", "l"), api.Entry{}, api.ErrTurn},
		{accept("c", "l"), after(low, api.EntryDealt, "c", 80), 0},
		{accept("c", "l"), api.Entry{}, api.ErrState},
		{accept("c", "x"), api.Entry{}, api.ErrNone},
		{withdraw("n"), after(n, api.EntryWithdrawn, "", 0), 0},
		{start(2), api.Entry{}, api.ErrNone},
		{bid("a", "m", 60), m, 0},
		{lower("m", 10), entry("m", 1, 10, 10), 0},
		{start(1), after(entry("m", 1, 10, 10), api.EntryOpen, "", 0), 0},
		{bid("b", "m", 70), after(entry("m", 1, 10, 10), api.EntryOpen, "", 0), 0},
		{knock(1), after(entry("m", 1, 10, 10), api.EntrySold, "b", 61), 0},
	} {
		before := picture(s)
		ran(t, s, []api.Job{c.job})
		equal(t, c.job, s.Do(c.job), api.Done{Err: c.err, Entry: c.want})
		if c.err != api.OK {
			equal(t, c.job, picture(s), before)
		}
	}
}

// P6.6: ErrArg for what is no job.
func TestNoJob(t *testing.T) {
	s := hall(t, 1, entry("l", 1, 10, 20))
	for _, what := range append(hostile, -7, 99) {
		if what < api.JobBid || what > api.JobDecline {
			refused(t, s, what, func() api.Errno {
				d := s.Do(api.Job{What: what, Room: 1, Buyer: "a", Lot: "l", Price: 15})
				equal(t, what, d.Entry, api.Entry{})
				return d.Err
			}, api.ErrArg)
		}
	}
}

// P6.6: fields that are not named for a job play no part.
func TestOtherFieldsPlayNoPart(t *testing.T) {
	for _, full := range []bool{false, true} {
		s := hall(t, 2, entry("l", 1, 10, 90), entry("m", 1, 10, 20), entry("n", 2, 10, 30))
		jobs := []api.Job{bid("a", "l", 40), bid("b", "l", 50), start(1), knock(1), lower("l", 70), decline("b", "l"),
			accept("a", "l"), withdraw("m")}
		if full {
			for i, j := range jobs {
				if j.Room == 0 {
					jobs[i].Room = 2
				} else {
					jobs[i].Lot = "n"
				}
				if j.Buyer == "" {
					jobs[i].Buyer = "f"
				}
				if j.Price == 0 {
					jobs[i].Price = 10
				}
			}
		}
		for i, d := range ran(t, s, jobs) {
			equal(t, jobs[i], d.Err, api.OK)
		}
	}
}

// P6.7: Run's own errors, and no jobs.
func TestRunErrors(t *testing.T) {
	s := hall(t, 2, entry("l", 1, 10, 20), entry("m", 2, 10, 20))
	try := func(jobs, workers int, want api.Errno) {
		t.Helper()
		refused(t, s, []int{jobs, workers}, func() api.Errno {
			done, e := s.Run(slices.Repeat([]api.Job{start(1)}, jobs), workers)
			equal(t, "done", len(done), 0)
			return e
		}, want)
	}
	for _, workers := range hostile {
		try(257, workers, api.ErrLimit)
		if workers < 1 || workers > 8 {
			try(256, workers, api.ErrArg)
			try(0, workers, api.ErrArg)
		} else {
			try(0, workers, api.OK)
		}
	}
	try(10000, 1, api.ErrLimit)
	var jobs []api.Job
	for i := range api.MaxJobs {
		jobs = append(jobs, bid(buyers[i%2], lots[0], 10+i))
	}
	ok(t, s.Enter(entry("l1", 1, 10, 20)))
	for i, d := range ran(t, s, jobs) {
		equal(t, i, d, api.Done{Entry: entry("l1", 1, 10, 20)})
	}
}

// P6.7: what is refused does not keep the others from being carried out, and
// a job that concerns no room has its place.
func TestRunGoesOn(t *testing.T) {
	s := hall(t, 3, entry("l", 1, 10, 20), entry("m", 2, 10, 20))
	done := ran(t, s, []api.Job{
		bid("x", "l", 30), bid("a", "x", 30), {}, start(0), start(9), knock(-1), withdraw("x"), lower("", 5), start(3),
		accept("x", "x"), decline("a", "x"), {What: 99, Lot: "m"}, bid("a", "l", 9), bid("a", "l", 30), bid("a", "m", 25),
		start(2), start(1), knock(1), knock(2), knock(3),
	})
	equal(t, "errors", errs(done), []api.Errno{
		api.ErrNone, api.ErrNone, api.ErrArg, api.ErrArg, api.ErrArg, api.ErrArg, api.ErrNone, api.ErrNone, api.ErrNone,
		api.ErrNone, api.ErrNone, api.ErrArg, api.ErrPrice, 0, 0,
		0, 0, 0, 0, api.ErrState,
	})
	for i, d := range done {
		if d.Err != api.OK && d.Entry != (api.Entry{}) {
			t.Error(i, d)
		}
	}
}

// P6.7: rooms that share a buyer are not run apart: the credit that a job
// takes or gives back is there for the next job in another room.
func TestRunSharesCredit(t *testing.T) {
	all := 10000 // a price that takes all of a buyer's credit
	four := func() *room.Sale {
		return hall(t, 4, entry("l1", 1, 10, 20), entry("l2", 2, 10, 20), entry("l3", 3, 10, 20), entry("l4", 4, 10, 20))
	}
	sold := func(buyer, lot string, no, price int) *room.Sale {
		s := four()
		ok(t, s.Bid(buyer, lot, price), s.Bid("d", lot, price-1))
		began(t, s, no, lot)
		return s
	}
	gone := sold("a", "l1", 1, all)
	_, e := gone.Knock(1)
	ok(t, e)
	asked := four()
	ok(t, asked.Bid("a", "l1", 15), asked.Bid("b", "l1", 14))
	began(t, asked, 1, "l1")
	passed(t, asked, 1, "l1")
	chain := four()
	ok(t, chain.Bid("a", "l1", all), chain.Bid("b", "l2", all))
	for i, c := range []struct {
		s    *room.Sale
		jobs []api.Job
		want []api.Errno
	}{
		// By their jobs alone, in both orders.
		{four(), []api.Job{bid("a", "l1", all), bid("a", "l2", all)}, []api.Errno{0, 14}},
		{four(), []api.Job{bid("a", "l2", all), bid("a", "l1", all)}, []api.Errno{0, 14}},
		{four(), []api.Job{bid("a", "l4", all), bid("a", "l3", all), bid("a", "l2", all)}, []api.Errno{0, 14, 14}},
		// By a limit that was there before, and a job of others.
		{chain, []api.Job{bid("a", "l3", 10), withdraw("l1"), bid("a", "l3", 10)}, []api.Errno{14, 0, 0}},
		{chain, []api.Job{bid("b", "l1", 20), withdraw("l2"), bid("b", "l1", 20)}, []api.Errno{14, 0, 0}},
		{chain, []api.Job{withdraw("l2"), bid("b", "l4", 20), withdraw("l1"), bid("a", "l3", 20)}, []api.Errno{0, 0, 0, 0}},
		// The hammer gives back what the price is below the limit.
		{sold("a", "l2", 2, all), []api.Job{bid("a", "l1", 10), knock(2), bid("a", "l1", 10)}, []api.Errno{14, 0, 14}},
		{sold("a", "l2", 2, 9000), []api.Job{bid("a", "l1", 1010), knock(2), bid("a", "l1", 1010)}, []api.Errno{14, 0, 14}},
		{sold("a", "l2", 2, 9000), []api.Job{bid("d", "l1", 1002), knock(2), bid("d", "l1", 1002)}, []api.Errno{14, 0, 0}},
		// What was bought keeps its price.
		{gone, []api.Job{bid("a", "l2", 10), bid("d", "l2", all)}, []api.Errno{14, 0}},
		// Who accepts needs the credit that a bid takes.
		{asked, []api.Job{bid("a", "l2", 9981), accept("a", "l1")}, []api.Errno{0, 14}},
		{asked, []api.Job{bid("a", "l2", 9980), accept("a", "l1")}, []api.Errno{0, 0}},
		{asked, []api.Job{accept("a", "l1"), bid("a", "l2", 9981)}, []api.Errno{0, 14}},
		{asked, []api.Job{decline("a", "l1"), bid("b", "l4", 9981), accept("b", "l1")}, []api.Errno{0, 0, 14}},
		// Through others: a's bid depends on c, in a room that b's bid joins.
		{four(), []api.Job{
			bid("a", "l1", all), bid("a", "l2", all), bid("b", "l2", all), bid("b", "l3", all), bid("c", "l3", all), bid("c", "l4", all),
			withdraw("l1"), bid("a", "l4", all), withdraw("l2"), bid("b", "l3", all), withdraw("l3"), bid("c", "l4", all),
		}, []api.Errno{0, 14, 0, 14, 0, 14, 0, 0, 0, 0, 0, 0}},
	} {
		equal(t, i, errs(ran(t, c.s, c.jobs)), c.want)
	}
}
