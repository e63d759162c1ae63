package room

import (
	"sync"

	"merino/api"
)

// mostWorkers is how many clerks can work at once.
const mostWorkers = 8

// part is the jobs of rooms that share no buyer with other rooms.
type part struct {
	sale *Sale // as it is in these rooms; the others are empty
	jobs []int // where they stand in the list of all jobs, ascending
}

// Do carries out a job.
func (s *Sale) Do(j api.Job) api.Done {
	if !s.isSale() {
		return api.Done{Err: api.ErrNil}
	}
	switch j.What {
	case api.JobBid:
		return s.done(j.Lot, s.Bid(j.Buyer, j.Lot, j.Price))
	case api.JobStart:
		return shown(s.Start(j.Room))
	case api.JobKnock:
		return shown(s.Knock(j.Room))
	case api.JobWithdraw:
		return s.done(j.Lot, s.Withdraw(j.Lot))
	case api.JobLower:
		return s.done(j.Lot, s.Lower(j.Lot, j.Price))
	case api.JobAccept:
		return shown(s.Accept(j.Buyer, j.Lot))
	case api.JobDecline:
		return s.done(j.Lot, s.Decline(j.Buyer, j.Lot))
	default:
		return api.Done{Err: api.ErrArg}
	}
}

// done returns what came of a job on a lot.
func (s *Sale) done(lot string, err api.Errno) api.Done {
	if err != api.OK {
		return api.Done{Err: err}
	}
	return shown(s.Entry(lot))
}

// shown returns an entry and an error as what came of a job.
func shown(e api.Entry, err api.Errno) api.Done { return api.Done{Err: err, Entry: e} }

// Run carries out jobs, with so many workers at once, as Do would one by one.
func (s *Sale) Run(jobs []api.Job, workers int) ([]api.Done, api.Errno) {
	if !s.isSale() {
		return nil, api.ErrNil
	}
	if len(jobs) > api.MaxJobs {
		return nil, api.ErrLimit
	}
	if workers < 1 || workers > mostWorkers {
		return nil, api.ErrArg
	}
	done := make([]api.Done, len(jobs))
	parts := make(chan part)
	var working sync.WaitGroup
	for range workers {
		working.Add(1)
		go func() {
			defer working.Done()
			for p := range parts {
				p.run(jobs, done)
			}
		}()
	}
	for _, p := range s.parts(jobs) {
		parts <- p
	}
	close(parts)
	working.Wait()
	return done, api.OK
}

// run carries out the jobs of p, which are some of jobs, and puts what came of
// each into its place in done.
func (p part) run(jobs []api.Job, done []api.Done) {
	for _, i := range p.jobs {
		done[i] = p.sale.Do(jobs[i])
	}
}

// parts divides jobs into parts that have no room and no buyer in common, so
// that their order among each other plays no part. The parts share the offers
// of the sale, each of which is in one part alone, and the credits, which no
// job changes.
func (s *Sale) parts(jobs []api.Job) []part {
	parts := make([]part, len(s.rooms))
	for i := range parts {
		parts[i].sale = &Sale{credits: s.credits, rooms: make([][]*offer, len(s.rooms))}
	}
	group := s.groups(jobs)
	for room, catalogue := range s.rooms {
		parts[group[room]].sale.rooms[room] = catalogue
	}
	for i, j := range jobs {
		p := &parts[group[s.place(j)]]
		p.jobs = append(p.jobs, i)
	}
	return parts
}

// groups returns, for each room, the first one of its group. Rooms are in a
// group if they share a buyer, by a limit or by a job, directly or through
// other rooms: what is done in one of them can change what that buyer may
// still spend in another one.
func (s *Sale) groups(jobs []api.Job) []int {
	group := make([]int, len(s.rooms))
	for room := range group {
		group[room] = room
	}
	seen := map[string]int{} // for each buyer, a room in which they are
	meet := func(buyer string, room int) {
		other, ok := seen[buyer]
		if !ok {
			seen[buyer] = room
			return
		}
		low, high := min(group[room], group[other]), max(group[room], group[other])
		for i, g := range group {
			if g == high {
				group[i] = low
			}
		}
	}
	for room, catalogue := range s.rooms {
		for _, o := range catalogue {
			for _, l := range o.limits {
				meet(l.buyer, room)
			}
		}
	}
	for _, j := range jobs {
		switch j.What {
		case api.JobBid, api.JobAccept, api.JobDecline:
			meet(j.Buyer, s.place(j))
		}
	}
	return group
}

// place returns the index of the room that a job concerns. A job that concerns
// no room is refused, whatever was done before it: any room will do for it.
func (s *Sale) place(j api.Job) int {
	switch j.What {
	case api.JobStart, api.JobKnock:
		if s.isRoom(j.Room) {
			return j.Room - 1
		}
	default:
		if o, err := s.find(j.Lot); err == api.OK {
			return o.Room - 1
		}
	}
	return 0
}
