package room_test

import (
	"strconv"
	"testing"

	"merino/api"
	"merino/room"
)

// What a buyer has committed, P6.5 and P6.9: limits while an entry waits or is
// open, the price once it is sold, and nothing of what was passed, withdrawn
// or sold to others.
func TestCommitted(t *testing.T) {
	s := hall(t, 2, entry("l", 1, 10, 20), entry("m", 2, 10, 20), entry("n", 1, 10, 90))
	free(t, s, "a", 100000)
	ok(t, s.Bid("a", "l", 50))
	free(t, s, "a", 100000-500)
	ok(t, s.Bid("a", "l", 60)) // instead of the limit before
	free(t, s, "a", 100000-600)
	ok(t, s.Bid("a", "m", 30), s.Bid("b", "l", 40))
	free(t, s, "a", 100000-900)
	free(t, s, "b", 100000-400)
	began(t, s, 1, "l")
	free(t, s, "a", 100000-900)
	s.Knock(1) // to a, at 41
	free(t, s, "a", 100000-300-410)
	free(t, s, "b", 100000)
	ok(t, s.Withdraw("m"))
	free(t, s, "a", 100000-410)
	ok(t, s.Bid("a", "n", 80), s.Bid("b", "n", 70))
	began(t, s, 1, "n")
	free(t, s, "b", 100000-700)
	passed(t, s, 1, "n")
	free(t, s, "a", 100000-410)
	free(t, s, "b", 100000)
	_, e := s.Accept("a", "n")
	ok(t, e)
	free(t, s, "a", 100000-410-900)
	for _, buyer := range []string{"x", ""} {
		got, e := s.Free(buyer)
		same(t, buyer, got, e, 0, api.ErrNone)
	}
}

// P6.2: a bid needs credit to the last cent, over all rooms, and without the
// buyer's own limit for the entry.
func TestBidNeedsCredit(t *testing.T) {
	s := hall(t, 2, entry("l", 1, 10, 20), entry("m", 2, 10, 20))
	low := func(lot string, price int) {
		t.Helper()
		refused(t, s, price, func() api.Errno { return s.Bid("a", lot, price) }, api.ErrCredit)
	}
	low("l", 10001)
	ok(t, s.Bid("a", "l", 9000))
	low("m", 1001)
	low("l", 10001)
	ok(t, s.Bid("a", "l", 10000)) // not 9000 and 10000
	free(t, s, "a", 0)
	low("m", 10)
	began(t, s, 1, "l")
	low("m", 10)
	s.Knock(1) // at 20
	low("m", 9981)
	ok(t, s.Bid("a", "m", 9980))
	free(t, s, "a", 0)
	ok(t, s.Buyer("none", 0))
	refused(t, s, "no credit", func() api.Errno { return s.Bid("none", "m", 10) }, api.ErrCredit)
	refused(t, s, "no credit, too low", func() api.Errno { return s.Bid("none", "m", 9) }, api.ErrPrice)
}

// P6.5: the most that can be committed.
func TestMostCommitted(t *testing.T) {
	s, e := room.New(1)
	ok(t, e, s.Buyer("a", api.MaxAmount))
	for i := range api.MaxEntries {
		lot := "l" + strconv.Itoa(i)
		ok(t, s.Enter(api.Entry{Lot: lot, Room: 1, Kilos: api.MaxKilos, Open: 1, Reserve: api.MaxPrice}))
		ok(t, s.Bid("a", lot, api.MaxPrice))
	}
	free(t, s, "a", api.MaxAmount-api.MaxEntries*api.MaxPrice*api.MaxKilos)
	for range api.MaxEntries {
		_, e := s.Start(1)
		ok(t, e)
		sold, e := s.Knock(1)
		if sold.Price != api.MaxPrice || sold.State != api.EntrySold || e != api.OK {
			t.Fatal(sold, e)
		}
	}
	free(t, s, "a", api.MaxAmount-api.MaxEntries*api.MaxPrice*api.MaxKilos)
}

// P6.5: Entries returns new memory, and Copy is independent of its sale.
func TestCopy(t *testing.T) {
	s := hall(t, 2, entry("l", 1, 10, 20), entry("m", 1, 10, 20))
	ok(t, s.Bid("a", "l", 12), s.Bid("b", "l", 11))
	entries, e := s.Entries(1)
	ok(t, e)
	entries[0] = api.Entry{}
	entries = append(entries[:1], entry("x", 1, 1, 1))
	c := s.Copy()
	before := picture(s)
	equal(t, "copy", picture(c), before)

	busy := func(s *room.Sale) {
		ok(t, s.Buyer("new", 7), s.Enter(entry("n", 2, 1, 1)), s.Enter(entry("o", 1, 1, 1)), s.Bid("c", "l", 11))
		ok(t, s.Bid("b", "l", 19), s.Withdraw("m"))
		began(t, s, 1, "l")
		passed(t, s, 1, "l")
		ok(t, s.Decline("b", "l"), s.Lower("l", 15))
		_, e := s.Accept("a", "l")
		ok(t, e)
	}
	busy(c)
	equal(t, "the sale", picture(s), before)
	if _, e := s.Free("new"); e != api.ErrNone {
		t.Error("the sale has the buyer of the copy")
	}
	after := picture(c)
	busy(s)
	equal(t, "the sale", picture(s), after)
	d := s.Copy()
	ok(t, s.Bid("d", "n", 10))
	equal(t, "the copy", picture(d), after)
}

// Rule 3, P6.5 to P6.7: of a nil or a zero Sale.
func TestNoSale(t *testing.T) {
	for _, s := range []*room.Sale{nil, {}} {
		if s.Copy() != nil {
			t.Error("a copy of no sale")
		}
		var got []any
		e1, x1 := s.Start(1)
		e2, x2 := s.Knock(1)
		e3, x3 := s.Accept("a", "l")
		e4, x4 := s.Entry("l")
		equal(t, "entries", []api.Entry{e1, e2, e3, e4}, make([]api.Entry, 4))
		got = append(got, x1, x2, x3, x4, s.Buyer("", -1), s.Enter(api.Entry{}), s.Bid("", "", 0), s.Withdraw("l"))
		got = append(got, s.Lower("l", 1), s.Decline("a", "l"))
		buyer, x5 := s.Turn("l")
		leader, price, x6 := s.Standing("l")
		entries, x7 := s.Entries(1)
		free, x8 := s.Free("a")
		equal(t, "looking", []any{buyer, leader, price, entries, free}, []any{"", "", 0, []int{}, 0})
		done, x9 := s.Run(make([]api.Job, api.MaxJobs+1), 0)
		equal(t, "run", len(done), 0)
		got = append(got, x5, x6, x7, x8, x9)
		for i, e := range got {
			equal(t, i, e, api.ErrNil)
		}
		for what := -1; what <= 8; what++ {
			equal(t, "do", s.Do(api.Job{What: what, Room: 1, Buyer: "a", Lot: "l", Price: 1}), api.Done{Err: api.ErrNil})
		}
	}
}
