package room_test

import (
	"math"
	"strconv"
	"testing"

	"merino/api"
	"merino/room"
)

// The chapter's examples.
func TestExamples(t *testing.T) {
	s := hall(t, 1, entry("l", 1, 400, 600))
	ok(t, s.Bid("a", "l", 700))
	stands(t, s, "l", "a", 600)
	ok(t, s.Bid("b", "l", 650))
	stands(t, s, "l", "a", 652)
	began(t, s, 1, "l")
	refused(t, s, "653", func() api.Errno { return s.Bid("b", "l", 653) }, api.ErrPrice)
	ok(t, s.Bid("b", "l", 654))
	stands(t, s, "l", "a", 656)
	ok(t, s.Bid("b", "l", 700))
	stands(t, s, "l", "a", 700)
	e, err := s.Knock(1)
	want := entry("l", 1, 400, 600)
	want.State, want.Buyer, want.Price = api.EntrySold, "a", 700
	same(t, "knock", e, err, want, api.OK)

	ok(t, s.Buyer("poor", 1000))
	ok(t, s.Enter(api.Entry{Lot: "two", Room: 1, Kilos: 2, Open: 1, Reserve: 1}))
	refused(t, s, "501", func() api.Errno { return s.Bid("poor", "two", 501) }, api.ErrCredit)
	ok(t, s.Bid("poor", "two", 500))
}

// P6.1: New.
func TestNew(t *testing.T) {
	for _, rooms := range hostile {
		s, e := room.New(rooms)
		if rooms < 1 || rooms > 4 {
			if s != nil || e != api.ErrArg {
				t.Error(rooms, s, e)
			}
			continue
		}
		if s == nil || e != api.OK {
			t.Fatal(rooms, s, e)
		}
		for _, no := range hostile {
			want := api.OK
			if no < 1 || no > rooms {
				want = api.ErrArg
			}
			if entries, e := s.Entries(no); len(entries) != 0 || e != want {
				t.Error(rooms, no, entries, e)
			}
		}
		_, e = s.Free("a")
		equal(t, "free", e, api.ErrNone)
	}
}

// The step above a price, for any number; P6.1.
func TestStep(t *testing.T) {
	for _, c := range [][2]int{
		{math.MinInt, 1}, {-1, 1}, {0, 1}, {1, 1}, {499, 1}, {500, 2}, {999, 2}, {1000, 5}, {1999, 5}, {2000, 10},
		{api.MaxPrice, 10}, {math.MaxInt, 10},
	} {
		equal(t, c, room.Step(c[0]), c[1])
	}
}

// P6.1: Buyer.
func TestBuyer(t *testing.T) {
	s, e := room.New(1)
	ok(t, e)
	for _, name := range names {
		ok(t, s.Buyer(name, 5))
		refused(t, s, name, func() api.Errno { return s.Buyer(name, 6) }, api.ErrExists)
		refused(t, s, name, func() api.Errno { return s.Buyer(name, -1) }, api.ErrArg)
		free(t, s, name, 5)
	}
	for _, name := range notNames {
		refused(t, s, name, func() api.Errno { return s.Buyer(name, 5) }, api.ErrArg)
		if _, e := s.Free(name); e != api.ErrNone {
			t.Errorf("%q: error %d", name, e)
		}
	}
	for _, credit := range hostile {
		if credit < 0 || credit > api.MaxAmount {
			refused(t, s, credit, func() api.Errno { return s.Buyer("new", credit) }, api.ErrArg)
		}
	}
	ok(t, s.Buyer("none", 0), s.Buyer("most", api.MaxAmount))
	free(t, s, "none", 0)
	free(t, s, "most", api.MaxAmount)
	for i := len(names) + 2; i < api.MaxBuyers; i++ {
		ok(t, s.Buyer("n"+strconv.Itoa(i), i))
	}
	refused(t, s, "the 65th", func() api.Errno { return s.Buyer("more", 1) }, api.ErrFull)
	refused(t, s, "no name", func() api.Errno { return s.Buyer("More", 1) }, api.ErrArg)
	refused(t, s, "the same", func() api.Errno { return s.Buyer("a", 1) }, api.ErrExists)
}

// P6.1: Enter puts entries at the end of their rooms' catalogues.
func TestEnter(t *testing.T) {
	s := hall(t, 2)
	var want [3][]api.Entry
	for i, lot := range names {
		e := entry(lot, 1+i%2, 5, 7)
		want[e.Room] = append(want[e.Room], e)
		// State, Buyer and Price play no part.
		e.State, e.Buyer, e.Price = i+1, "a", i
		ok(t, s.Enter(e))
		refused(t, s, lot, func() api.Errno { return s.Enter(entry(lot, 2-i%2, 5, 7)) }, api.ErrExists)
		got, err := s.Entry(lot)
		same(t, lot, got, err, want[e.Room][i/2], api.OK)
	}
	for _, no := range []int{1, 2} {
		entries, e := s.Entries(no)
		equal(t, no, []any{entries, e}, []any{want[no], api.OK})
	}
	free(t, s, "a", 100000)
	for _, lot := range notNames {
		refused(t, s, lot, func() api.Errno { return s.Enter(entry(lot, 1, 5, 7)) }, api.ErrArg)
		if _, e := s.Entry(lot); e != api.ErrNone {
			t.Errorf("%q: error %d", lot, e)
		}
	}
}

// P6.1: the numbers of an entry.
func TestEnterLimits(t *testing.T) {
	s := hall(t, 2)
	no := 0
	try := func(e api.Entry, good bool) {
		t.Helper()
		e.Lot = "n" + strconv.Itoa(no)
		if good {
			ok(t, s.Enter(e))
			no++
			return
		}
		refused(t, s, e, func() api.Errno { return s.Enter(e) }, api.ErrArg)
		e.Lot = "n0" // an argument that is not allowed comes first
		if no > 0 {
			refused(t, s, e, func() api.Errno { return s.Enter(e) }, api.ErrArg)
		}
	}
	for _, n := range hostile {
		try(api.Entry{Room: n, Kilos: 1, Open: 1, Reserve: 1}, n == 1 || n == 2)
		try(api.Entry{Room: 1, Kilos: n, Open: 1, Reserve: 1}, 1 <= n && n <= api.MaxKilos)
		try(api.Entry{Room: 2, Kilos: 1, Open: n, Reserve: api.MaxPrice}, 1 <= n && n <= api.MaxPrice)
		try(api.Entry{Room: 2, Kilos: 1, Open: 1, Reserve: n}, 1 <= n && n <= api.MaxPrice)
		try(api.Entry{Room: 2, Kilos: 1, Open: 5, Reserve: n}, 5 <= n && n <= api.MaxPrice)
	}
	ok(t, s.Withdraw("n0"))
	refused(t, s, "withdrawn", func() api.Errno { return s.Enter(entry("n0", 1, 1, 1)) }, api.ErrExists)
	for ; no < api.MaxEntries; no++ {
		ok(t, s.Enter(entry("n"+strconv.Itoa(no), 1+no%2, 1, 1)))
	}
	refused(t, s, "the 65th", func() api.Errno { return s.Enter(entry("more", 1, 1, 1)) }, api.ErrFull)
	refused(t, s, "no name", func() api.Errno { return s.Enter(entry("More", 1, 1, 1)) }, api.ErrArg)
	refused(t, s, "the same", func() api.Errno { return s.Enter(entry("n1", 1, 1, 1)) }, api.ErrExists)
}

// P6.2: which error Bid returns.
func TestBidErrors(t *testing.T) {
	s := hall(t, 2, entry("sold", 1, 5, 5), entry("open", 1, 5, 5), entry("waits", 1, 5, 5), entry("gone", 2, 5, 5),
		entry("passed", 2, 5, 9), entry("dealt", 2, 5, 9))
	ok(t, s.Withdraw("gone"), s.Bid("a", "sold", 5), s.Bid("a", "dealt", 5))
	began(t, s, 1, "sold")
	s.Knock(1)
	began(t, s, 1, "open")
	began(t, s, 2, "passed")
	passed(t, s, 2, "passed")
	began(t, s, 2, "dealt")
	passed(t, s, 2, "dealt")
	_, e := s.Accept("a", "dealt")
	ok(t, e)
	for _, c := range []struct {
		buyer, lot string
		price      int
		want       api.Errno
	}{
		{"x", "x", 0, api.ErrNone},
		{"x", "sold", 0, api.ErrNone},
		{"x", "open", 9, api.ErrNone},
		{"", "open", 9, api.ErrNone},
		{"b", "x", 0, api.ErrNone},
		{"b", "", 9, api.ErrNone},
		{"b", "sold", 0, api.ErrState},
		{"b", "gone", 9, api.ErrState},
		{"b", "passed", 4, api.ErrState},
		{"b", "dealt", 99999, api.ErrState},
		{"b", "open", 0, api.ErrArg},
		{"b", "waits", -1, api.ErrArg},
		{"b", "waits", math.MinInt, api.ErrArg},
		{"b", "waits", math.MaxInt, api.ErrArg},
		{"b", "open", api.MaxPrice + 1, api.ErrArg},
		{"b", "open", 4, api.ErrPrice},
		{"b", "waits", 1, api.ErrPrice},
		{"b", "open", 10001, api.ErrCredit},
		{"b", "waits", api.MaxPrice, api.ErrCredit},
	} {
		refused(t, s, c, func() api.Errno { return s.Bid(c.buyer, c.lot, c.price) }, c.want)
	}
	ok(t, s.Bid("b", "open", 5), s.Bid("c", "waits", 10000))
}

// P6.2: when a price is too low.
func TestTooLow(t *testing.T) {
	s := hall(t, 1, entry("l", 1, 100, 498))
	low := func(buyer string, price int) {
		t.Helper()
		refused(t, s, []any{buyer, price}, func() api.Errno { return s.Bid(buyer, "l", price) }, api.ErrPrice)
	}
	low("a", 99)
	ok(t, s.Bid("a", "l", 100))
	low("a", 100) // not above the own limit
	low("a", 99)
	ok(t, s.Bid("a", "l", 101))
	ok(t, s.Bid("b", "l", 300)) // an entry that waits: any price from Open on
	ok(t, s.Bid("c", "l", 100))
	stands(t, s, "l", "b", 102)
	began(t, s, 1, "l")
	low("d", 102) // the standing price 102 and the step 1
	low("a", 102) // above the own limit
	low("c", 102)
	ok(t, s.Bid("d", "l", 103))
	stands(t, s, "l", "b", 104)
	low("b", 300) // who leads need only be above their limit
	ok(t, s.Bid("b", "l", 301))
	stands(t, s, "l", "b", 104)
	ok(t, s.Bid("b", "l", 498)) // the reserve is met now, and is the standing price
	stands(t, s, "l", "b", 498)
	low("a", 498)
	ok(t, s.Bid("a", "l", 499))
	stands(t, s, "l", "a", 499) // 498 and the step 1, which is not more than the limit
	low("b", 499)
	ok(t, s.Bid("b", "l", 500))
	stands(t, s, "l", "b", 500)
	low("a", 501) // 500 and the step 2
	ok(t, s.Bid("a", "l", 502))
	low("a", 502)
	ok(t, s.Bid("a", "l", 503))
	stands(t, s, "l", "a", 502)
}

// P6.2: the first bid for an open entry need only be Open.
func TestFirstBid(t *testing.T) {
	s := hall(t, 1, entry("l", 1, 100, 200))
	began(t, s, 1, "l")
	refused(t, s, 99, func() api.Errno { return s.Bid("a", "l", 99) }, api.ErrPrice)
	ok(t, s.Bid("a", "l", 100))
	stands(t, s, "l", "a", 100)
	refused(t, s, 100, func() api.Errno { return s.Bid("b", "l", 100) }, api.ErrPrice)
	ok(t, s.Bid("b", "l", 101))
	stands(t, s, "l", "b", 101)
}

// P6.2: the highest prices; nobody can bid more than them.
func TestHighestPrices(t *testing.T) {
	s, e := room.New(1)
	ok(t, e, s.Buyer("a", api.MaxAmount), s.Buyer("b", api.MaxAmount))
	ok(t, s.Enter(api.Entry{Lot: "l", Room: 1, Kilos: api.MaxKilos, Open: api.MaxPrice - 1, Reserve: api.MaxPrice}))
	began(t, s, 1, "l")
	ok(t, s.Bid("a", "l", api.MaxPrice-1))
	refused(t, s, "the step", func() api.Errno { return s.Bid("b", "l", api.MaxPrice) }, api.ErrPrice)
	refused(t, s, "no price", func() api.Errno { return s.Bid("b", "l", api.MaxPrice+9) }, api.ErrArg)
	ok(t, s.Bid("a", "l", api.MaxPrice))
	stands(t, s, "l", "a", api.MaxPrice)
	free(t, s, "a", api.MaxAmount-api.MaxPrice*api.MaxKilos)
}

// The standing price, by the number of the bidders and the reserve.
func TestStanding(t *testing.T) {
	for _, c := range []struct {
		open, reserve int
		limits        []int // of a, b, c and so on, in the order of time
		leader        string
		price         int
	}{
		{400, 600, []int{400}, "a", 400},
		{400, 600, []int{599}, "a", 400},
		{400, 600, []int{600}, "a", 600},
		{400, 600, []int{900}, "a", 600},
		{400, 400, []int{900}, "a", 400},
		{400, 600, []int{450, 430}, "a", 431},
		{400, 600, []int{430, 450}, "b", 431},
		{400, 600, []int{430, 430}, "a", 430}, // equal: the earlier, at the limit
		{400, 600, []int{600, 430}, "a", 600},
		{400, 600, []int{600, 599}, "a", 600},
		{400, 600, []int{600, 600}, "a", 600},
		{400, 600, []int{601, 600}, "a", 601}, // at most the first limit
		{400, 600, []int{602, 600}, "a", 602},
		{400, 600, []int{700, 600}, "a", 602},
		{400, 600, []int{700, 499}, "a", 600},
		{400, 400, []int{700, 499}, "a", 500},
		{400, 400, []int{700, 500}, "a", 502},
		{400, 400, []int{2500, 999}, "a", 1001},
		{400, 400, []int{2500, 1000}, "a", 1005},
		{400, 400, []int{2500, 1999}, "a", 2004},
		{400, 400, []int{2500, 2000}, "a", 2010},
		{400, 400, []int{2005, 2000}, "a", 2005},
		{400, 400, []int{410, 430, 420}, "b", 421},
		{400, 400, []int{420, 410, 430, 420}, "c", 421},
		{400, 400, []int{430, 420, 430}, "a", 430},
	} {
		s := hall(t, 1, entry("l", 1, c.open, c.reserve))
		for i, limit := range c.limits {
			ok(t, s.Bid(buyers[i], "l", limit))
		}
		stands(t, s, "l", c.leader, c.price)
		began(t, s, 1, "l")
		stands(t, s, "l", c.leader, c.price)
		want := entry("l", 1, c.open, c.reserve)
		want.State = api.EntryPassed
		for _, limit := range c.limits {
			if limit >= c.reserve {
				want.State, want.Buyer, want.Price = api.EntrySold, c.leader, c.price
			}
		}
		e, err := s.Knock(1)
		same(t, c, e, err, want, api.OK)
	}
}

// The time of a limit is that of the bid that made it.
func TestTimeOfALimit(t *testing.T) {
	s := hall(t, 1, entry("l", 1, 10, 90))
	ok(t, s.Bid("a", "l", 40), s.Bid("b", "l", 50), s.Bid("c", "l", 50), s.Bid("a", "l", 50), s.Bid("d", "l", 45))
	stands(t, s, "l", "b", 50)
	ok(t, s.Bid("d", "l", 50))
	began(t, s, 1, "l")
	passed(t, s, 1, "l")
	order, e := turns(s, "l")
	equal(t, "turns", []any{order, e}, []any{[]string{"b", "c", "a", "d"}, api.ErrTurn})
}

// P6.5: Standing's errors.
func TestStandingErrors(t *testing.T) {
	s := hall(t, 1, entry("l", 1, 10, 20), entry("m", 1, 10, 20), entry("n", 1, 10, 20))
	try := func(lot string, want api.Errno) {
		t.Helper()
		b, p, e := s.Standing(lot)
		equal(t, lot, []any{b, p, e}, []any{"", 0, want})
	}
	try("x", api.ErrNone)
	try("", api.ErrNone)
	try("l", api.ErrPrice)
	began(t, s, 1, "l")
	try("l", api.ErrPrice)
	ok(t, s.Bid("a", "l", 10), s.Bid("a", "m", 20), s.Bid("a", "n", 20))
	stands(t, s, "l", "a", 10)
	passed(t, s, 1, "l")
	try("l", api.ErrState)
	ok(t, s.Withdraw("n"))
	try("n", api.ErrState)
	_, e := s.Accept("a", "l")
	ok(t, e)
	try("l", api.ErrState)
	began(t, s, 1, "m")
	s.Knock(1)
	try("m", api.ErrState)
}

// P6.3: Start opens one entry of a room after another, and leaves other rooms
// alone.
func TestStart(t *testing.T) {
	s := hall(t, 3, entry("l1", 1, 10, 20), entry("m1", 2, 10, 20), entry("l2", 1, 10, 20), entry("l3", 1, 10, 20))
	again := func(no int, want api.Errno) {
		t.Helper()
		refused(t, s, no, func() api.Errno {
			e, err := s.Start(no)
			equal(t, "start", e, api.Entry{})
			return err
		}, want)
	}
	for _, no := range hostile {
		if no < 1 || no > 3 {
			again(no, api.ErrArg)
		}
	}
	again(3, api.ErrNone)
	ok(t, s.Withdraw("l2"))
	want := entry("l1", 1, 10, 20)
	want.State = api.EntryOpen
	e, err := s.Start(1)
	same(t, "start", e, err, want, api.OK)
	again(1, api.ErrState)
	began(t, s, 2, "m1")
	passed(t, s, 1, "l1")
	began(t, s, 1, "l3") // not l2, which is withdrawn
	again(1, api.ErrState)
	passed(t, s, 1, "l3")
	again(1, api.ErrNone)
	again(2, api.ErrState)
	ok(t, s.Enter(entry("l4", 1, 10, 20)))
	began(t, s, 1, "l4")
	// A withdrawn entry is none that waits.
	passed(t, s, 2, "m1")
	ok(t, s.Enter(entry("m2", 2, 10, 20)), s.Withdraw("m2"))
	again(2, api.ErrNone)
}

// P6.3: Knock.
func TestKnock(t *testing.T) {
	s := hall(t, 3, entry("l1", 1, 10, 20), entry("m1", 2, 10, 20), entry("l2", 1, 10, 20), entry("l3", 1, 10, 20))
	again := func(no int, want api.Errno) {
		t.Helper()
		refused(t, s, no, func() api.Errno {
			e, err := s.Knock(no)
			equal(t, "knock", e, api.Entry{})
			return err
		}, want)
	}
	for _, no := range hostile {
		if no < 1 || no > 3 {
			again(no, api.ErrArg)
		}
	}
	again(1, api.ErrState)
	again(3, api.ErrState)
	began(t, s, 1, "l1")
	again(2, api.ErrState)
	want := entry("l1", 1, 10, 20)
	want.State = api.EntryPassed
	e, err := s.Knock(1) // no bidders
	same(t, "knock", e, err, want, api.OK)
	again(1, api.ErrState)
	began(t, s, 1, "l2")
	ok(t, s.Bid("a", "l2", 19)) // below the reserve
	passed(t, s, 1, "l2")
	began(t, s, 1, "l3")
	ok(t, s.Bid("a", "l3", 20), s.Bid("b", "l3", 31))
	want = entry("l3", 1, 10, 20)
	want.State, want.Buyer, want.Price = api.EntrySold, "b", 21
	e, err = s.Knock(1)
	same(t, "knock", e, err, want, api.OK)
	again(1, api.ErrState)
	e, err = s.Entry("l3")
	same(t, "entry", e, err, want, api.OK)
}

// P6.4: Withdraw.
func TestWithdraw(t *testing.T) {
	s := hall(t, 1, entry("l", 1, 10, 20), entry("m", 1, 10, 20))
	try := func(lot string, want api.Errno) {
		t.Helper()
		refused(t, s, lot, func() api.Errno { return s.Withdraw(lot) }, want)
	}
	try("x", api.ErrNone)
	ok(t, s.Bid("a", "l", 30), s.Bid("a", "m", 15))
	free(t, s, "a", 100000-450)
	ok(t, s.Withdraw("l"))
	free(t, s, "a", 100000-150)
	want := entry("l", 1, 10, 20)
	want.State = api.EntryWithdrawn
	e, err := s.Entry("l")
	same(t, "entry", e, err, want, api.OK)
	try("l", api.ErrState)
	began(t, s, 1, "m")
	try("m", api.ErrState)
	passed(t, s, 1, "m")
	try("m", api.ErrState)
	ok(t, s.Lower("m", 15))
	_, err = s.Accept("a", "m")
	ok(t, err)
	try("m", api.ErrState)
	ok(t, s.Enter(entry("n", 1, 10, 20)), s.Bid("a", "n", 20))
	began(t, s, 1, "n")
	s.Knock(1)
	try("n", api.ErrState)
}

// P6.4: Lower.
func TestLower(t *testing.T) {
	s := hall(t, 1, entry("l", 1, 10, 20), entry("m", 1, 10, 20), entry("n", 1, 10, 20))
	try := func(lot string, reserve int, want api.Errno) {
		t.Helper()
		refused(t, s, []any{lot, reserve}, func() api.Errno { return s.Lower(lot, reserve) }, want)
	}
	try("x", 0, api.ErrNone)
	try("x", 15, api.ErrNone)
	for _, n := range append(hostile, 20, 21) {
		try("l", n, api.ErrArg)
	}
	ok(t, s.Bid("a", "l", 18), s.Lower("l", 19))
	try("l", 19, api.ErrArg)
	stands(t, s, "l", "a", 10)
	ok(t, s.Lower("l", 18))
	stands(t, s, "l", "a", 18) // the limit meets the reserve now
	ok(t, s.Lower("l", 10))
	stands(t, s, "l", "a", 10)
	try("l", 10, api.ErrArg)
	want := entry("l", 1, 10, 10)
	e, err := s.Entry("l")
	same(t, "entry", e, err, want, api.OK)
	began(t, s, 1, "l")
	try("l", 0, api.ErrState)
	s.Knock(1)
	try("l", 15, api.ErrState) // sold
	began(t, s, 1, "m")
	ok(t, s.Bid("a", "m", 12))
	try("m", 15, api.ErrState) // open
	passed(t, s, 1, "m")
	try("m", 20, api.ErrArg)
	try("m", 9, api.ErrArg)
	ok(t, s.Lower("m", 11))
	want = entry("m", 1, 10, 11)
	want.State = api.EntryPassed // though the limit meets the reserve
	e, err = s.Entry("m")
	same(t, "entry", e, err, want, api.OK)
	_, err = s.Accept("a", "m")
	ok(t, err)
	try("m", 10, api.ErrState) // dealt
	ok(t, s.Withdraw("n"))
	try("n", 15, api.ErrState)
}
