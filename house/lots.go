package house

import (
	"maps"
	"slices"

	"merino/api"
	"merino/stock"
)

const gramsOfKilo = 1000

// view returns a view of the store as it is.
func (h *House) view() *stock.View {
	v, _ := h.store.At(h.store.Version())
	return v
}

// unsent returns a lot of the store that was not sent.
func (h *House) unsent(name string) (api.Lot, api.Errno) {
	lot, err := h.view().Lot(name)
	if err != api.OK {
		return api.Lot{}, err
	}
	if lot.Sent {
		return api.Lot{}, api.ErrState
	}
	return lot, api.OK
}

// bales returns the bales of a lot.
func (h *House) bales(lot api.Lot) []api.Bale {
	v := h.view()
	var bales []api.Bale
	for _, no := range lot.Bales {
		b, _ := v.Bale(no)
		bales = append(bales, b)
	}
	return bales
}

// owners returns the owners of the wool in a lot, ascending, and the grams of
// each.
func (h *House) owners(lot api.Lot) ([]string, []int) {
	clips := h.view().Clips()
	sums := map[string]int{}
	for _, b := range h.bales(lot) {
		for _, p := range b.Parts {
			sums[clips[p.Clip-1].Owner] += p.Grams
		}
	}
	owners := slices.Sorted(maps.Keys(sums))
	var grams []int
	for _, owner := range owners {
		grams = append(grams, sums[owner])
	}
	return owners, grams
}

// isSold reports whether an entry of the sale has a buyer.
func isSold(e api.Entry) bool { return e.State == api.EntrySold || e.State == api.EntryDealt }

// enter puts a lot into the sale.
type enter api.Entry

func (e enter) run(h *House) (string, api.Errno) {
	lot, err := h.unsent(e.Lot)
	if err != api.OK {
		return "", err
	}
	grams := 0
	for _, b := range h.bales(lot) {
		grams += b.Grams
	}
	e.Kilos = grams / gramsOfKilo
	return done, h.sale.Enter(api.Entry(e))
}

// unlot dissolves a lot that is not in the sale.
type unlot struct{ lot string }

func (u unlot) run(h *House) (string, api.Errno) {
	if _, err := h.view().Lot(u.lot); err != api.OK {
		return "", err
	}
	if e, err := h.sale.Entry(u.lot); err == api.OK && e.State != api.EntryWithdrawn {
		return "", api.ErrState
	}
	return done, h.store.Unlot(u.lot)
}

// send sends a lot that is sold.
type send struct{ lot string }

func (s send) run(h *House) (string, api.Errno) {
	if _, err := h.view().Lot(s.lot); err != api.OK {
		return "", err
	}
	if e, err := h.sale.Entry(s.lot); err != api.OK || !isSold(e) {
		return "", api.ErrState
	}
	return done, h.store.Send(s.lot)
}
