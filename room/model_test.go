package room_test

import (
	"fmt"
	"maps"
	"math/rand/v2"
	"slices"
	"strings"

	"merino/api"
)

// said is a bid that made a limit.
type said struct {
	buyer, lot  string
	price, time int
}

// model is a sale by the words of the chapter: plain lists.
type model struct {
	rooms   int
	credits map[string]int
	entries []api.Entry
	said    []said // each buyer's last bid for each lot
	turns   map[string]int
	time    int
}

func newModel(rooms int) *model {
	return &model{rooms: rooms, credits: map[string]int{}, turns: map[string]int{}}
}

// clone is a deep copy.
func (m *model) clone() *model {
	return &model{m.rooms, maps.Clone(m.credits), slices.Clone(m.entries), slices.Clone(m.said), maps.Clone(m.turns), m.time}
}

// at is where the entry of a lot stands, or -1.
func (m *model) at(lot string) int {
	return slices.IndexFunc(m.entries, func(e api.Entry) bool { return e.Lot == lot })
}

// bidders are those of a lot: one after another, the best of those left.
func (m *model) bidders(lot string) []said {
	var left, order []said
	for _, s := range m.said {
		if s.lot == lot {
			left = append(left, s)
		}
	}
	for len(left) > 0 {
		best := 0
		for i, s := range left {
			if s.price > left[best].price || s.price == left[best].price && s.time < left[best].time {
				best = i
			}
		}
		order = append(order, left[best])
		left = slices.Delete(left, best, best+1)
	}
	return order
}

// step is the step above a price.
func step(price int) int {
	for _, row := range [][2]int{{500, 1}, {1000, 2}, {2000, 5}} {
		if price < row[0] {
			return row[1]
		}
	}
	return 10
}

// standing is who leads and the standing price, if there are bidders.
func (m *model) standing(e api.Entry) (string, int) {
	order := m.bidders(e.Lot)
	price := e.Open
	if len(order) > 1 {
		price = min(order[1].price+step(order[1].price), order[0].price)
	}
	if order[0].price >= e.Reserve && price < e.Reserve {
		price = e.Reserve
	}
	return order[0].buyer, price
}

// isLive tells whether an entry waits or is open.
func isLive(e api.Entry) bool { return e.State == api.EntryWaiting || e.State == api.EntryOpen }

// committed is what a buyer has committed, but for their limit for one lot.
func (m *model) committed(buyer, but string) int {
	sum := 0
	for _, e := range m.entries {
		if (e.State == api.EntrySold || e.State == api.EntryDealt) && e.Buyer == buyer {
			sum += e.Price * e.Kilos
		}
	}
	for _, s := range m.said {
		if e := m.entries[m.at(s.lot)]; s.buyer == buyer && s.lot != but && isLive(e) {
			sum += s.price * e.Kilos
		}
	}
	return sum
}

// bid is the error of Bid, or makes the limit.
func (m *model) bid(j api.Job, e api.Entry) api.Errno {
	order := m.bidders(e.Lot)
	old := slices.IndexFunc(m.said, func(s said) bool { return s.buyer == j.Buyer && s.lot == e.Lot })
	if !isLive(e) {
		return api.ErrState
	}
	if j.Price < 1 || j.Price > api.MaxPrice {
		return api.ErrArg
	}
	if j.Price < e.Open || old >= 0 && j.Price <= m.said[old].price {
		return api.ErrPrice
	}
	if e.State == api.EntryOpen && len(order) > 0 && order[0].buyer != j.Buyer {
		if _, price := m.standing(e); j.Price < price+step(price) {
			return api.ErrPrice
		}
	}
	if m.committed(j.Buyer, e.Lot)+j.Price*e.Kilos > m.credits[j.Buyer] {
		return api.ErrCredit
	}
	if old >= 0 {
		m.said = slices.Delete(m.said, old, old+1)
	}
	m.time++
	m.said = append(m.said, said{j.Buyer, e.Lot, j.Price, m.time})
	return api.OK
}

// do carries out a job.
func (m *model) do(j api.Job) api.Done {
	at, e := -1, api.Errno(api.OK)
	switch j.What {
	case api.JobStart, api.JobKnock:
		at, e = m.hammer(j)
	case api.JobBid, api.JobAccept, api.JobDecline:
		if _, ok := m.credits[j.Buyer]; !ok {
			return api.Done{Err: api.ErrNone}
		}
		if at = m.at(j.Lot); at < 0 {
			return api.Done{Err: api.ErrNone}
		}
		if j.What == api.JobBid {
			e = m.bid(j, m.entries[at])
		} else {
			e = m.answer(j, &m.entries[at])
		}
	case api.JobWithdraw, api.JobLower:
		if at = m.at(j.Lot); at < 0 {
			return api.Done{Err: api.ErrNone}
		}
		e = m.change(j, &m.entries[at])
	default:
		e = api.ErrArg
	}
	if e != api.OK {
		return api.Done{Err: e}
	}
	return api.Done{Entry: m.entries[at]}
}

// hammer carries out Start and Knock, and tells where the entry stands.
func (m *model) hammer(j api.Job) (int, api.Errno) {
	if j.Room < 1 || j.Room > m.rooms {
		return 0, api.ErrArg
	}
	in := func(state int) int {
		return slices.IndexFunc(m.entries, func(e api.Entry) bool { return e.Room == j.Room && e.State == state })
	}
	open, waits := in(api.EntryOpen), in(api.EntryWaiting)
	if j.What == api.JobStart {
		if open >= 0 {
			return 0, api.ErrState
		}
		if waits < 0 {
			return 0, api.ErrNone
		}
		m.entries[waits].State = api.EntryOpen
		return waits, api.OK
	}
	if open < 0 {
		return 0, api.ErrState
	}
	e := &m.entries[open]
	order := m.bidders(e.Lot)
	if len(order) == 0 || order[0].price < e.Reserve {
		e.State = api.EntryPassed
		return open, api.OK
	}
	e.Buyer, e.Price = m.standing(*e)
	e.State = api.EntrySold
	return open, api.OK
}

// change carries out Withdraw and Lower.
func (m *model) change(j api.Job, e *api.Entry) api.Errno {
	switch {
	case j.What == api.JobWithdraw && e.State == api.EntryWaiting:
		e.State = api.EntryWithdrawn
	case j.What == api.JobWithdraw:
		return api.ErrState
	case e.State != api.EntryWaiting && e.State != api.EntryPassed:
		return api.ErrState
	case j.Price < 1 || j.Price > api.MaxPrice || j.Price < e.Open || j.Price >= e.Reserve:
		return api.ErrArg
	default:
		e.Reserve = j.Price
	}
	return api.OK
}

// answer carries out Accept and Decline.
func (m *model) answer(j api.Job, e *api.Entry) api.Errno {
	if e.State != api.EntryPassed {
		return api.ErrState
	}
	order := m.bidders(e.Lot)
	if turn := m.turns[e.Lot]; turn >= len(order) || order[turn].buyer != j.Buyer {
		return api.ErrTurn
	}
	if j.What == api.JobDecline {
		m.turns[e.Lot]++
		return api.OK
	}
	if m.committed(j.Buyer, "")+e.Reserve*e.Kilos > m.credits[j.Buyer] {
		return api.ErrCredit
	}
	e.State, e.Buyer, e.Price = api.EntryDealt, j.Buyer, e.Reserve
	return api.OK
}

// picture is what picture of a sale must be.
func (m *model) picture() string {
	var all strings.Builder
	for no := range api.MaxRooms + 2 {
		if no < 1 || no > m.rooms {
			fmt.Fprintln(&all, "room", no, api.ErrArg)
			continue
		}
		fmt.Fprintln(&all, "room", no, api.OK)
		for _, e := range m.entries {
			if e.Room == no {
				fmt.Fprintln(&all, e, e, api.OK)
				m.pictureLot(&all, e)
			}
		}
	}
	for _, b := range append(buyers, "nobody") {
		if credit, ok := m.credits[b]; ok {
			fmt.Fprintln(&all, b, credit-m.committed(b, ""), api.OK)
		} else {
			fmt.Fprintln(&all, b, 0, api.ErrNone)
		}
	}
	return all.String()
}

// pictureLot tells who leads an entry and whose turns it may be.
func (m *model) pictureLot(all *strings.Builder, e api.Entry) {
	order := m.bidders(e.Lot)
	switch {
	case !isLive(e):
		fmt.Fprintln(all, "standing", "", 0, api.ErrState)
	case len(order) == 0:
		fmt.Fprintln(all, "standing", "", 0, api.ErrPrice)
	default:
		leader, price := m.standing(e)
		fmt.Fprintln(all, "standing", leader, price, api.OK)
	}
	if e.State != api.EntryPassed {
		fmt.Fprintln(all, "turns", []string{}, api.ErrState)
		return
	}
	var turns []string
	for _, s := range order[m.turns[e.Lot]:] {
		turns = append(turns, s.buyer)
	}
	fmt.Fprintln(all, "turns", turns, api.ErrTurn)
}

// anyJob is a job that a busy sale may be asked for; many are refused.
func (m *model) anyJob(d *rand.Rand) api.Job {
	j := api.Job{What: 1 + d.IntN(7), Room: d.IntN(m.rooms+2) - d.IntN(6)/5, Buyer: "x", Lot: "x", Price: 1}
	if d.IntN(2) == 0 {
		j.What = api.JobBid
	}
	if d.IntN(40) == 0 {
		j.What = hostile[d.IntN(len(hostile))]
	}
	if d.IntN(15) > 0 {
		j.Buyer = buyers[d.IntN(len(buyers))]
	}
	if d.IntN(15) > 0 && len(m.entries) > 0 {
		e := m.entries[d.IntN(len(m.entries))]
		j.Lot, j.Price = e.Lot, m.anyPrice(d, e)
		if turn, order := m.turns[e.Lot], m.bidders(e.Lot); turn < len(order) && d.IntN(2) == 0 && !isLive(e) {
			j.Buyer = order[turn].buyer
		}
	}
	if d.IntN(30) == 0 {
		j.Price = hostile[d.IntN(len(hostile))]
	}
	return j
}

// anyPrice is one round those that count for an entry.
func (m *model) anyPrice(d *rand.Rand, e api.Entry) int {
	prices := []int{e.Open, e.Reserve, e.Open + d.IntN(e.Reserve-e.Open+1)}
	for _, s := range m.bidders(e.Lot) {
		_, standing := m.standing(e)
		prices = append(prices, s.price, standing, standing+step(standing))
	}
	return prices[d.IntN(len(prices))] + d.IntN(1+d.IntN(30)) - d.IntN(3)
}
