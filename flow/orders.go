package flow

import (
	"slices"

	"merino/api"
)

// Limits of orders and blends that the chapter writes as numbers.
const (
	mostWants = 12
	mostPrice = 16384
	mostVeg   = 10000
	lastPlace = 7 // the last store, and the last port

	mostBlended = 6
	mostInBlend = 24
)

// Fill returns how many bales of each parcel go to each want.
func Fill(parcels []api.Parcel, wants []api.Want, t api.Tariff) (api.Fill, api.Errno) {
	if err := checkOrders(parcels, wants, t); err != api.OK {
		return api.Fill{}, err
	}
	arcs := routes(parcels, wants, t)
	var need []int
	for _, p := range parcels {
		need = append(need, p.Bales)
	}
	for _, w := range wants {
		need = append(need, -w.Bales)
	}
	w := supplied(len(need), arcs, need, len(need)*api.MaxCost)
	w.circulate()
	amounts := w.greatest(len(arcs))
	fill := api.Fill{Amounts: make([][]int, len(parcels))}
	for i := range parcels {
		fill.Amounts[i] = slices.Clone(amounts[i*len(wants) : (i+1)*len(wants)])
	}
	for i, amount := range amounts {
		fill.Bales += amount
		fill.Cost += amount * arcs[i].Cost
	}
	return fill, api.OK
}

// routes returns an arc from each parcel to each want, parcel by parcel. It
// carries nothing where the parcel does not suit.
func routes(parcels []api.Parcel, wants []api.Want, t api.Tariff) []api.Arc {
	var arcs []api.Arc
	for i, p := range parcels {
		for j, w := range wants {
			arc := api.Arc{From: i, To: len(parcels) + j, Cost: p.Price + t[p.Store][w.Port]}
			if Suits(p, w) {
				arc.Cap = p.Bales
			}
			arcs = append(arcs, arc)
		}
	}
	return arcs
}

// Suits reports whether bales of a parcel are what is wanted.
func Suits(p api.Parcel, w api.Want) bool {
	return w.Low <= p.Micron && p.Micron <= w.High && p.Veg <= w.Veg && p.Price <= w.Price
}

// Blend returns how many bales of each parcel make the cheapest blend, and
// what they cost. It tries all blends, the lexicographically greatest first,
// so that a later one is better only if it costs less.
func Blend(parcels []api.Parcel, bales, low, high int) ([]int, int, api.Errno) {
	if err := checkBlend(parcels, bales, low, high); err != api.OK {
		return nil, 0, err
	}
	behind := make([]int, len(parcels)+1) // how many bales there are from each parcel on
	for i := len(parcels) - 1; i >= 0; i-- {
		behind[i] = behind[i+1] + parcels[i].Bales
	}
	var best []int
	least := 0
	amounts := make([]int, len(parcels))
	var choose func(at, left, microns, cost int)
	choose = func(at, left, microns, cost int) {
		if at == len(parcels) {
			isBlend := left == 0 && microns >= low*bales && microns <= high*bales
			if isBlend && (best == nil || cost < least) {
				best, least = slices.Clone(amounts), cost
			}
			return
		}
		p := parcels[at]
		for k := min(left, p.Bales); k >= max(0, left-behind[at+1]); k-- {
			amounts[at] = k
			choose(at+1, left-k, microns+k*p.Micron, cost+k*p.Price)
		}
	}
	choose(0, bales, 0, 0)
	if best == nil {
		return nil, 0, api.ErrPlan
	}
	return best, least, api.OK
}

// checkOrders returns an error unless the arguments of Fill are valid.
func checkOrders(parcels []api.Parcel, wants []api.Want, t api.Tariff) api.Errno {
	if len(parcels) > api.MaxParcels || len(wants) > mostWants {
		return api.ErrLimit
	}
	if err := checkParcels(parcels); err != api.OK {
		return err
	}
	for _, w := range wants {
		if !isWithin(w.Bales, api.MaxCount) || !isWithin(w.Price, mostPrice) || !isWithin(w.Low, api.MaxMicron) ||
			!isWithin(w.High, api.MaxMicron) || !isWithin(w.Veg, mostVeg) || !isWithin(w.Port, lastPlace) {
			return api.ErrArg
		}
	}
	for _, row := range t {
		for _, cost := range row {
			if !isWithin(cost, mostPrice) {
				return api.ErrArg
			}
		}
	}
	return api.OK
}

// checkBlend returns an error unless the arguments of Blend are valid.
func checkBlend(parcels []api.Parcel, bales, low, high int) api.Errno {
	if len(parcels) > mostBlended {
		return api.ErrLimit
	}
	if bales < 1 || bales > mostInBlend || !isWithin(low, api.MaxMicron) || !isWithin(high, api.MaxMicron) {
		return api.ErrArg
	}
	return checkParcels(parcels)
}

// checkParcels returns an error unless all parcels are valid.
func checkParcels(parcels []api.Parcel) api.Errno {
	for _, p := range parcels {
		if !isWithin(p.Bales, api.MaxCount) || !isWithin(p.Price, mostPrice) || !isWithin(p.Micron, api.MaxMicron) ||
			!isWithin(p.Veg, mostVeg) || !isWithin(p.Store, lastPlace) {
			return api.ErrArg
		}
	}
	return api.OK
}

// isWithin reports whether a number is from 0 to most.
func isWithin(n, most int) bool { return n >= 0 && n <= most }
