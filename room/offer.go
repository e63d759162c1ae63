package room

import (
	"cmp"
	"slices"

	"merino/api"
)

// offer is an entry with what was bid for it.
type offer struct {
	api.Entry
	limits   []limit // those of the bidders, in the bidders' order
	declined int     // of a passed entry: how many of its bidders did not want it
}

// limit is the highest price that a buyer bids.
type limit struct {
	buyer string
	price int
}

// Step returns the step above a price.
func Step(price int) int {
	switch {
	case price < 500:
		return 1
	case price < 1000:
		return 2
	case price < 2000:
		return 5
	default:
		return 10
	}
}

// isPrice reports whether n is a price.
func isPrice(n int) bool { return 1 <= n && n <= api.MaxPrice }

// first returns the first offer of a catalogue in a state, or nil.
func first(catalogue []*offer, state int) *offer {
	for _, o := range catalogue {
		if o.State == state {
			return o
		}
	}
	return nil
}

// clone returns an offer that is as o is, and independent of it.
func (o *offer) clone() *offer {
	c := *o
	c.limits = slices.Clone(o.limits)
	return &c
}

// isBiddable reports whether buyers can bid for o.
func (o *offer) isBiddable() bool {
	return o.State == api.EntryWaiting || o.State == api.EntryOpen
}

// limit returns a buyer's limit, or 0.
func (o *offer) limit(buyer string) int {
	for _, l := range o.limits {
		if l.buyer == buyer {
			return l.price
		}
	}
	return 0
}

// bid makes price the limit of a buyer, in its rank.
func (o *offer) bid(buyer string, price int) {
	o.limits = slices.DeleteFunc(o.limits, func(l limit) bool { return l.buyer == buyer })
	o.limits = append(o.limits, limit{buyer, price})
	// The newest limit is the last one; as the sort is stable, it stays behind
	// those that equal it.
	slices.SortStableFunc(o.limits, func(a, b limit) int { return cmp.Compare(b.price, a.price) })
}

// isTooLow reports whether a buyer must bid more than price.
func (o *offer) isTooLow(buyer string, price int) bool {
	if price < o.Open || price <= o.limit(buyer) {
		return true
	}
	if o.State != api.EntryOpen || len(o.limits) == 0 || o.limits[0].buyer == buyer {
		return false
	}
	standing := o.standing()
	return price < standing+Step(standing)
}

// meetsReserve reports whether o has a bidder whose limit is at least its
// reserve.
func (o *offer) meetsReserve() bool {
	return len(o.limits) > 0 && o.limits[0].price >= o.Reserve
}

// standing returns the standing price of an offer that has bidders.
func (o *offer) standing() int {
	price := o.Open
	if len(o.limits) > 1 {
		second := o.limits[1].price
		price = min(second+Step(second), o.limits[0].price)
	}
	if o.meetsReserve() {
		price = max(price, o.Reserve)
	}
	return price
}

// knock sells o to its first bidder, or passes it.
func (o *offer) knock() {
	if !o.meetsReserve() {
		o.State = api.EntryPassed
		return
	}
	o.State, o.Buyer, o.Price = api.EntrySold, o.limits[0].buyer, o.standing()
}

// asked returns the buyer whose turn it is, or an empty string.
func (o *offer) asked() string {
	if o.declined == len(o.limits) {
		return ""
	}
	return o.limits[o.declined].buyer
}

// committed returns what a buyer has committed for o.
func (o *offer) committed(buyer string) int {
	switch {
	case o.isBiddable():
		return o.limit(buyer) * o.Kilos
	case o.Buyer == buyer:
		return o.Price * o.Kilos
	default:
		return 0
	}
}
