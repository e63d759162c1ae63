package room_test

import (
	"fmt"
	"math/rand/v2"
	"slices"
	"testing"

	"merino/api"
	"merino/room"
)

// life is a sale with what it must be.
type life struct {
	sale  *room.Sale
	model *model
}

// newLife is a sale of some rooms in which buyers and entries are registered
// while it goes on; credits are scarce.
func newLife(t *testing.T, d *rand.Rand) *life {
	t.Helper()
	rooms := 1 + d.IntN(api.MaxRooms)
	s, e := room.New(rooms)
	ok(t, e)
	l := &life{s, newModel(rooms)}
	for range 10 {
		l.register(t, d)
	}
	return l
}

// register registers a buyer or an entry, if there are any left.
func (l *life) register(t *testing.T, d *rand.Rand) {
	t.Helper()
	if n := len(l.model.credits); n < len(buyers) && d.IntN(2) == 0 {
		credit := d.IntN(1 + d.IntN(40000))
		ok(t, l.sale.Buyer(buyers[n], credit))
		l.model.credits[buyers[n]] = credit
		return
	}
	if n := len(l.model.entries); n < len(lots) {
		open := []int{1, 20, 480, 990, 1990}[d.IntN(5)] + d.IntN(20)
		e := api.Entry{Lot: lots[n], Room: 1 + d.IntN(l.model.rooms), Kilos: 1 + d.IntN(12), Open: open, Reserve: open + d.IntN(40)}
		ok(t, l.sale.Enter(e))
		l.model.entries = append(l.model.entries, e)
	}
}

// step carries out a job, through Do or through the method of its own, and
// compares what came of it.
func (l *life) step(t *testing.T, d *rand.Rand) (api.Job, api.Done) {
	t.Helper()
	if d.IntN(10) == 0 {
		l.register(t, d)
	}
	j := l.model.anyJob(d)
	before := picture(l.sale)
	want := l.model.do(j)
	got := l.carryOut(d, j)
	equal(t, j, got, want)
	after := picture(l.sale)
	if after != l.model.picture() {
		t.Fatalf("%v: the sale is %s; want %s", j, after, l.model.picture())
	}
	if want.Err != api.OK && after != before {
		t.Fatalf("%v is refused: the sale was %s and is %s", j, before, after)
	}
	return j, got
}

// do carries out a job.
func (l *life) do(j api.Job) {
	l.sale.Do(j)
	l.model.do(j)
}

// carryOut carries out a job in one of the two ways.
func (l *life) carryOut(d *rand.Rand, j api.Job) api.Done {
	s := l.sale
	then := func(e api.Errno) api.Done {
		if e != api.OK {
			return api.Done{Err: e}
		}
		now, e := s.Entry(j.Lot)
		return api.Done{Err: e, Entry: now}
	}
	both := func(now api.Entry, e api.Errno) api.Done { return api.Done{Err: e, Entry: now} }
	if d.IntN(2) == 0 {
		return s.Do(j)
	}
	switch j.What {
	case 1:
		return then(s.Bid(j.Buyer, j.Lot, j.Price))
	case 2:
		return both(s.Start(j.Room))
	case 3:
		return both(s.Knock(j.Room))
	case 4:
		return then(s.Withdraw(j.Lot))
	case 5:
		return then(s.Lower(j.Lot, j.Price))
	case 6:
		return both(s.Accept(j.Buyer, j.Lot))
	case 7:
		return then(s.Decline(j.Buyer, j.Lot))
	}
	return s.Do(j)
}

// P6.1 to P6.6: a sale does what the words of the chapter say, and what is
// refused changes nothing. The random sales reach every answer of every job.
func TestModel(t *testing.T) {
	seen := map[string]bool{}
	for seed := range uint64(150) {
		d := dice(seed)
		l := newLife(t, d)
		for range 150 {
			j, done := l.step(t, d)
			seen[fmt.Sprint(j.What, " ", done.Err)] = true
		}
	}
	for _, want := range []string{
		"1 0", "1 2", "1 7", "1 10", "1 14", "1 15", "2 0", "2 2", "2 7", "2 10", "3 0", "3 2", "3 10",
		"4 0", "4 7", "4 10", "5 0", "5 2", "5 7", "5 10", "6 0", "6 7", "6 10", "6 14", "6 16",
		"7 0", "7 7", "7 10", "7 16", "0 2", "8 2",
	} {
		if !seen[want] {
			t.Error("never reached: ", want)
		}
	}
}

// P6.7 and P6.10: Run does what Do does of the jobs one by one, with any
// number of workers, whether the buyers keep to a room, seldom leave it or go
// from room to room.
func TestRunIsDoOneByOne(t *testing.T) {
	for seed := range uint64(300) {
		d := dice(1000 + seed)
		l := newLife(t, d)
		next := l.model
		anyJob := func() api.Job {
			j := next.anyJob(d)
			if at := next.at(j.Lot); at >= 0 && seed%3 < 2 {
				away := d.IntN(10) / 9 * int(seed%3)
				j.Buyer = buyers[next.entries[at].Room-1+away]
			}
			return j
		}
		for range d.IntN(60) {
			l.do(anyJob())
		}
		next = l.model.clone()
		var jobs []api.Job
		for range d.IntN(100) {
			jobs = append(jobs, anyJob())
			next.do(jobs[len(jobs)-1])
		}
		ran(t, l.sale, jobs)
	}
}

// P6.8: a price is at most the limit and at least the reserve; a leader who
// raises their limit leads at the same price, but for the two exceptions.
func TestTheSecondPrice(t *testing.T) {
	raised, excepted := 0, 0
	for seed := range uint64(200) {
		d := dice(2000 + seed)
		l := newLife(t, d)
		for range 150 {
			j := l.model.anyJob(d)
			leader, price, e := l.sale.Standing(j.Lot)
			old, now := 0, l.sale.Copy()
			if e == api.OK {
				old = l.model.bidders(j.Lot)[0].price
			}
			if j.What == api.JobBid && e == api.OK && d.IntN(2) == 0 {
				j.Buyer = leader
			}
			if now.Do(j).Err == api.OK && j.What == api.JobBid && e == api.OK && j.Buyer == leader {
				entry, _ := l.sale.Entry(j.Lot)
				again, newPrice, _ := now.Standing(j.Lot)
				isExcepted := price == old || old < entry.Reserve && j.Price >= entry.Reserve
				if again != leader || newPrice != price && !isExcepted {
					t.Error(entry, j, again, newPrice, "before:", leader, price)
				}
				raised++
				if isExcepted {
					excepted++
				}
			}
			l.do(j)
		}
		for _, e := range l.model.entries {
			got, _ := l.sale.Entry(e.Lot)
			if got.State != api.EntrySold {
				continue
			}
			if first := l.model.bidders(e.Lot)[0]; got.Price > first.price || got.Price < got.Reserve || got.Buyer != first.buyer {
				t.Error(got, first)
			}
		}
	}
	if raised < 100 || excepted < 20 || raised-excepted < 20 {
		t.Error(raised, "limits were raised,", excepted, "of them with another price")
	}
}

// P6.9: no buyer ever commits more than their credit; P6.11: an entry goes its
// way, and is sold or dealt once at most.
func TestCreditAndLives(t *testing.T) {
	ways := map[[2]int]bool{}
	for seed := range uint64(100) {
		d := dice(3000 + seed)
		l := newLife(t, d)
		for range 200 {
			before := l.entries()
			l.step(t, d)
			for _, b := range buyers[:len(l.model.credits)] {
				if free, e := l.sale.Free(b); free < 0 || free > l.model.credits[b] || e != api.OK {
					t.Error(b, free, e)
				}
			}
			after := l.entries()
			for i, old := range before {
				now := after[i]
				if old.State != now.State {
					ways[[2]int{old.State, now.State}] = true
				}
				if (old.State == api.EntrySold || old.State == api.EntryDealt || old.State == api.EntryWithdrawn) && old != now {
					t.Error("was", old, "is", now)
				}
				isSold := now.State == api.EntrySold || now.State == api.EntryDealt
				if isSold != (now.Buyer != "") || isSold != (now.Price > 0) {
					t.Error(now)
				}
			}
		}
	}
	equal(t, "ways", ways, map[[2]int]bool{{0, 1}: true, {0, 5}: true, {1, 2}: true, {1, 3}: true, {3, 4}: true})
}

// entries are those of all rooms, in the order in which they were entered.
func (l *life) entries() []api.Entry {
	var all []api.Entry
	for _, e := range l.model.entries {
		now, _ := l.sale.Entry(e.Lot)
		all = append(all, now)
	}
	return all
}

// P6.10: two lists of jobs that concern different rooms, lots and buyers can
// be run in either order.
func TestSomeOrder(t *testing.T) {
	good := 0
	for seed := range uint64(200) {
		d := dice(4000 + seed)
		s, e := room.New(4)
		ok(t, e)
		m := newModel(4)
		for _, b := range buyers {
			m.credits[b] = d.IntN(40000)
			ok(t, s.Buyer(b, m.credits[b]))
		}
		for i, lot := range lots {
			open := 1 + d.IntN(600)
			e := api.Entry{Lot: lot, Room: 1 + i%4, Kilos: 1 + d.IntN(12), Open: open, Reserve: open + d.IntN(40)}
			ok(t, s.Enter(e))
			m.entries = append(m.entries, e)
		}
		// a, c and e, and the odd rooms, are in the first list; the others in
		// the second one.
		var lists [2][]api.Job
		for range 120 {
			j := m.anyJob(d)
			at, b := m.at(j.Lot), slices.Index(buyers, j.Buyer)
			if at < 0 || b < 0 || j.Room < 1 || j.Room > 4 {
				continue
			}
			side := at % 2
			j.Buyer, j.Room = buyers[b/2*2+side], (j.Room-1)/2*2+1+side
			lists[side] = append(lists[side], j)
			m.do(j)
		}
		one, other := s.Copy(), s.Copy()
		d1, e1 := one.Run(lists[0], 3)
		d2, e2 := one.Run(lists[1], 3)
		d3, e3 := other.Run(lists[1], 3)
		d4, e4 := other.Run(lists[0], 3)
		ok(t, e1, e2, e3, e4)
		equal(t, seed, [][]api.Done{d4, d3}, [][]api.Done{d1, d2})
		equal(t, seed, picture(other), picture(one))
		both := ran(t, s, slices.Concat(lists[0], lists[1]))
		equal(t, seed, both, slices.Concat(d1, d2))
		for _, done := range both {
			if done.Err == api.OK {
				good++
			}
		}
	}
	if good < 2000 {
		t.Error(good, "jobs were carried out")
	}
}
