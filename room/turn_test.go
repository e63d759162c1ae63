package room_test

import (
	"testing"

	"merino/api"
	"merino/room"
)

// offered is a sale whose entry l, of 10 kilograms from 10 on, was passed with
// the reserve 90; b, a and c have their turn, in this order.
func offered(t *testing.T) *room.Sale {
	t.Helper()
	s := hall(t, 2, entry("l", 1, 10, 90), entry("m", 1, 10, 10), entry("n", 2, 10, 10))
	ok(t, s.Bid("a", "l", 40), s.Bid("b", "l", 50), s.Bid("c", "l", 30))
	began(t, s, 1, "l")
	passed(t, s, 1, "l")
	return s
}

// asks fails the test unless Turn of l answers this.
func asks(t *testing.T, s *room.Sale, buyer string, want api.Errno) {
	t.Helper()
	got, e := s.Turn("l")
	same(t, "turn", got, e, buyer, want)
}

// declines fails the test unless a buyer may not decline l.
func declines(t *testing.T, s *room.Sale, buyer string, want api.Errno) {
	t.Helper()
	refused(t, s, "decline of "+buyer, func() api.Errno { return s.Decline(buyer, "l") }, want)
}

// accepts fails the test unless a buyer may not accept l.
func accepts(t *testing.T, s *room.Sale, buyer string, want api.Errno) {
	t.Helper()
	refused(t, s, "accept of "+buyer, func() api.Errno {
		e, err := s.Accept(buyer, "l")
		equal(t, "accept", e, api.Entry{})
		return err
	}, want)
}

// P6.4: the bidders have their turn in their order.
func TestTurns(t *testing.T) {
	s := offered(t)
	for _, buyer := range []string{"b", "a", "c"} {
		asks(t, s, buyer, api.OK)
		for _, other := range buyers {
			if other != buyer {
				accepts(t, s, other, api.ErrTurn)
				declines(t, s, other, api.ErrTurn)
			}
		}
		ok(t, s.Decline(buyer, "l"))
	}
	asks(t, s, "", api.ErrTurn)
	for _, buyer := range buyers {
		accepts(t, s, buyer, api.ErrTurn)
		declines(t, s, buyer, api.ErrTurn)
	}
}

// P6.4: an entry without bidders is nobody's turn.
func TestNobodysTurn(t *testing.T) {
	s := hall(t, 1, entry("l", 1, 10, 90))
	began(t, s, 1, "l")
	passed(t, s, 1, "l")
	asks(t, s, "", api.ErrTurn)
	accepts(t, s, "a", api.ErrTurn)
	declines(t, s, "a", api.ErrTurn)
}

// P6.4: who has the turn gets the entry at its reserve, once.
func TestAccept(t *testing.T) {
	s := offered(t)
	ok(t, s.Decline("b", "l"), s.Lower("l", 80))
	asks(t, s, "a", api.OK) // a turn stays where it is when the reserve is lowered
	free(t, s, "a", 100000)
	e, err := s.Accept("a", "l")
	want := entry("l", 1, 10, 80)
	want.State, want.Buyer, want.Price = api.EntryDealt, "a", 80
	same(t, "accept", e, err, want, api.OK)
	e, err = s.Entry("l")
	same(t, "entry", e, err, want, api.OK)
	free(t, s, "a", 100000-800)
	free(t, s, "b", 100000)
	free(t, s, "c", 100000)
	asks(t, s, "", api.ErrState)
	accepts(t, s, "a", api.ErrState)
	declines(t, s, "a", api.ErrState)
	refused(t, s, "withdraw", func() api.Errno { return s.Withdraw("l") }, api.ErrState)
}

// P6.4: the errors that come before the turn.
func TestTurnErrors(t *testing.T) {
	s := offered(t)
	try := func(buyer, lot string, want api.Errno) {
		t.Helper()
		refused(t, s, []string{buyer, lot}, func() api.Errno {
			e, err := s.Accept(buyer, lot)
			equal(t, "accept", e, api.Entry{})
			return err
		}, want)
		refused(t, s, []string{buyer, lot}, func() api.Errno { return s.Decline(buyer, lot) }, want)
	}
	try("x", "l", api.ErrNone)
	try("", "l", api.ErrNone)
	try("x", "x", api.ErrNone)
	try("x", "m", api.ErrNone)
	try("a", "x", api.ErrNone)
	try("a", "", api.ErrNone)
	turn := func(lot string, want api.Errno) {
		t.Helper()
		got, e := s.Turn(lot)
		same(t, lot, got, e, "", want)
	}
	turn("x", api.ErrNone)
	turn("", api.ErrNone)
	ok(t, s.Bid("a", "m", 10), s.Bid("a", "n", 10))
	for range 2 {
		try("a", "m", api.ErrState) // it waits, and then is open
		turn("m", api.ErrState)
		s.Start(1)
	}
	s.Knock(1)
	try("a", "m", api.ErrState) // sold
	turn("m", api.ErrState)
	ok(t, s.Withdraw("n"))
	try("a", "n", api.ErrState)
	turn("n", api.ErrState)
}

// P6.4: Accept needs credit for the reserve, to the last cent.
func TestAcceptNeedsCredit(t *testing.T) {
	s := offered(t)
	ok(t, s.Bid("b", "m", 9909))
	free(t, s, "b", 910)
	ok(t, s.Bid("b", "m", 9911))
	free(t, s, "b", 890)
	accepts(t, s, "b", api.ErrCredit)
	accepts(t, s, "a", api.ErrTurn)
	asks(t, s, "b", api.OK) // the turn stays
	ok(t, s.Lower("l", 89))
	e, err := s.Accept("b", "l")
	if e.Price != 89 || err != api.OK {
		t.Error(e, err)
	}
	free(t, s, "b", 0)
}
