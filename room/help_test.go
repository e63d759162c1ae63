package room_test

import (
	"fmt"
	"math"
	"math/rand/v2"
	"slices"
	"strings"
	"testing"

	"merino/api"
	"merino/room"
)

// dice gives the same numbers in every run.
func dice(seed uint64) *rand.Rand { return rand.New(rand.NewPCG(seed, 6)) }

// hostile are ints at and round the limits.
var hostile = []int{
	math.MinInt, math.MinInt + 1, -api.MaxAmount, -2, -1, 0, 1, 2, 3, 4, 5, 6, 7, 8, 9, api.MaxBuyers, api.MaxEntries + 1,
	api.MaxJobs, api.MaxJobs + 1, api.MaxPrice - 1, api.MaxPrice, api.MaxPrice + 1, api.MaxKilos + 1, api.MaxAmount,
	api.MaxAmount + 1, math.MaxInt - 1, math.MaxInt,
}

// names are valid, notNames are not.
var (
	names    = []string{"a", "z", "m-1", "a-", "a--0", "anna", "abcdefghijklmnop", "z999999999999999"}
	notNames = []string{"", "A", "1", "-", "1a", "-a", "aB", "a b", "a_b", "a.", "a`", "a{", "a\x00", "aä", "ä", "{", "`",
		" a", "a ", "abcdefghijklmnopq", strings.Repeat("a", 1000)}
)

// buyers are those of the tests' sales, lots what may be entered in them.
var (
	buyers = []string{"a", "b", "c", "d", "e", "f"}
	lots   = []string{"l1", "l2", "l3", "l4", "l5", "l6", "l7", "l8"}
)

// same fails the test unless a call answered what was wanted.
func same[T comparable](t *testing.T, what any, got T, e api.Errno, want T, wantErr api.Errno) {
	t.Helper()
	if got != want || e != wantErr {
		t.Errorf("%v: got %v, error %d; want %v, error %d", what, got, e, want, wantErr)
	}
}

// equal fails the test unless two values print alike.
func equal(t *testing.T, what, got, want any) {
	t.Helper()
	if fmt.Sprint(got) != fmt.Sprint(want) {
		t.Errorf("%v: got %v; want %v", what, got, want)
	}
}

// ok fails the test unless all calls succeeded.
func ok(t *testing.T, errs ...api.Errno) {
	t.Helper()
	for i, e := range errs {
		if e != api.OK {
			t.Fatalf("call %d: error %d", i, e)
		}
	}
}

// refused fails the test unless a call returned this error and the sale shows
// what it showed before.
func refused(t *testing.T, s *room.Sale, what any, e func() api.Errno, want api.Errno) {
	t.Helper()
	before := picture(s)
	if got := e(); got != want {
		t.Errorf("%v: error %d; want %d", what, got, want)
	}
	equal(t, what, picture(s), before)
}

// picture is all that a sale shows of its rooms and of the tests' buyers, as a
// text. Whose turn it would be next is seen on a copy.
func picture(s *room.Sale) string {
	var all strings.Builder
	for no := range api.MaxRooms + 2 {
		entries, e := s.Entries(no)
		fmt.Fprintln(&all, "room", no, e)
		for _, entry := range entries {
			again, e := s.Entry(entry.Lot)
			fmt.Fprintln(&all, entry, again, e)
			leader, price, e := s.Standing(entry.Lot)
			fmt.Fprintln(&all, "standing", leader, price, e)
			order, e := turns(s, entry.Lot)
			fmt.Fprintln(&all, "turns", order, e)
		}
	}
	for _, b := range append(buyers, "nobody") {
		free, e := s.Free(b)
		fmt.Fprintln(&all, b, free, e)
	}
	return all.String()
}

// turns are those of an entry, and the error behind them.
func turns(s *room.Sale, lot string) ([]string, api.Errno) {
	s = s.Copy()
	var all []string
	for {
		buyer, e := s.Turn(lot)
		if e != api.OK {
			return all, e
		}
		all = append(all, buyer)
		if e := s.Decline(buyer, lot); e != api.OK {
			return all, e
		}
	}
}

// entry is one of 10 kilograms.
func entry(lot string, no, open, reserve int) api.Entry {
	return api.Entry{Lot: lot, Room: no, Kilos: 10, Open: open, Reserve: reserve}
}

// hall is a sale with so many rooms, the buyers of the tests with a credit of
// 100000 cents, and entries.
func hall(t *testing.T, rooms int, entries ...api.Entry) *room.Sale {
	t.Helper()
	s, e := room.New(rooms)
	ok(t, e)
	for _, b := range buyers {
		ok(t, s.Buyer(b, 100000))
	}
	for _, e := range entries {
		ok(t, s.Enter(e))
	}
	return s
}

// began starts the next entry of a room, which must be this lot.
func began(t *testing.T, s *room.Sale, no int, lot string) {
	t.Helper()
	e, err := s.Start(no)
	if e.Lot != lot || e.State != api.EntryOpen || err != api.OK {
		t.Fatal("start", no, e, err)
	}
}

// passed knocks the open entry of a room, which must pass.
func passed(t *testing.T, s *room.Sale, no int, lot string) {
	t.Helper()
	e, err := s.Knock(no)
	if e.Lot != lot || e.State != api.EntryPassed || err != api.OK {
		t.Fatal("knock", no, e, err)
	}
}

// stands fails the test unless this is who leads, and at what price.
func stands(t *testing.T, s *room.Sale, lot, leader string, price int) {
	t.Helper()
	b, p, e := s.Standing(lot)
	equal(t, "standing of "+lot, []any{b, p, e}, []any{leader, price, api.OK})
}

// free fails the test unless this is what a buyer has free.
func free(t *testing.T, s *room.Sale, buyer string, want int) {
	t.Helper()
	got, e := s.Free(buyer)
	same(t, "free of "+buyer, got, e, want, api.OK)
}

// The jobs.
func bid(buyer, lot string, price int) api.Job {
	return api.Job{What: api.JobBid, Buyer: buyer, Lot: lot, Price: price}
}
func start(no int) api.Job          { return api.Job{What: api.JobStart, Room: no} }
func knock(no int) api.Job          { return api.Job{What: api.JobKnock, Room: no} }
func withdraw(lot string) api.Job   { return api.Job{What: api.JobWithdraw, Lot: lot} }
func accept(b, lot string) api.Job  { return api.Job{What: api.JobAccept, Buyer: b, Lot: lot} }
func decline(b, lot string) api.Job { return api.Job{What: api.JobDecline, Buyer: b, Lot: lot} }
func lower(lot string, reserve int) api.Job {
	return api.Job{What: api.JobLower, Lot: lot, Price: reserve}
}

// oneByOne is what came of jobs, each of which Do carried out.
func oneByOne(s *room.Sale, jobs []api.Job) []api.Done {
	var done []api.Done
	for _, j := range jobs {
		done = append(done, s.Do(j))
	}
	return done
}

// ran fails the test unless Run, with any number of workers, does what Do does
// of the jobs one by one; it returns that.
func ran(t *testing.T, s *room.Sale, jobs []api.Job) []api.Done {
	t.Helper()
	single := s.Copy()
	want := oneByOne(single, jobs)
	passed := slices.Clone(jobs)
	for workers := 1; workers <= 8; workers++ {
		c := s.Copy()
		got, e := c.Run(jobs, workers)
		if e != api.OK || !slices.Equal(got, want) {
			t.Fatalf("%d workers: %v: got %v, error %d; want %v", workers, jobs, got, e, want)
		}
		if after := picture(c); after != picture(single) {
			t.Fatalf("%d workers: %v: the sale is %s; want %s", workers, jobs, after, picture(single))
		}
	}
	if !slices.Equal(jobs, passed) {
		t.Error("the jobs were changed")
	}
	return want
}

// errs are those of what came of jobs.
func errs(done []api.Done) []api.Errno {
	var all []api.Errno
	for _, d := range done {
		all = append(all, d.Err)
	}
	return all
}
