package stock

import (
	"slices"

	"merino/api"
)

// View is a version to look at.
type View struct {
	isMade bool // what tells a view of version 0 from the zero View
	state  state
}

// Clips returns the clips.
func (v *View) Clips() []api.Clip {
	if !v.isView() {
		return nil
	}
	var clips []api.Clip
	for _, c := range v.state.clips.All() {
		clips = append(clips, c)
	}
	return clips
}

// Bale returns a bale.
func (v *View) Bale(no int) (api.Bale, api.Errno) {
	if !v.isView() {
		return api.Bale{}, api.ErrNil
	}
	b, ok := v.state.bales.Get(no)
	if !ok {
		return api.Bale{}, api.ErrNone
	}
	return shownBale(b), api.OK
}

// Bales returns all bales that were ever made.
func (v *View) Bales() []api.Bale {
	if !v.isView() {
		return nil
	}
	var bales []api.Bale
	for _, b := range v.state.bales.All() {
		bales = append(bales, shownBale(b))
	}
	return bales
}

// Lot returns a lot.
func (v *View) Lot(name string) (api.Lot, api.Errno) {
	if !v.isView() {
		return api.Lot{}, api.ErrNil
	}
	lot, ok := v.state.lots.Get(name)
	if !ok {
		return api.Lot{}, api.ErrNone
	}
	return shownLot(lot), api.OK
}

// Lots returns the lots by their names.
func (v *View) Lots() []api.Lot {
	if !v.isView() {
		return nil
	}
	var lots []api.Lot
	for _, lot := range v.state.lots.All() {
		lots = append(lots, shownLot(lot))
	}
	return lots
}

// Totals returns what became of a clip's wool.
func (v *View) Totals(clip int) (api.Totals, api.Errno) {
	if !v.isView() {
		return api.Totals{}, api.ErrNil
	}
	t, ok := v.state.totals.Get(clip)
	if !ok {
		return api.Totals{}, api.ErrNone
	}
	for _, b := range v.state.bales.All() {
		if b.State == api.BaleGone {
			continue
		}
		for _, p := range b.Parts {
			if p.Clip == clip {
				t.Live += p.Grams
			}
		}
	}
	return t, api.OK
}

// Sources returns the bales from which a bale was made, directly or not.
func (v *View) Sources(bale int) ([]int, api.Errno) {
	if !v.isView() {
		return nil, api.ErrNil
	}
	if _, ok := v.state.bales.Get(bale); !ok {
		return nil, api.ErrNone
	}
	var isSource [api.MaxBales + 1]bool
	var sources []int
	// A bale is made from earlier ones: all that is made from a source is seen
	// before the source.
	for no, b := range v.state.bales.Back() {
		if isSource[no] {
			sources = append(sources, no)
		}
		if no == bale || isSource[no] {
			for _, from := range b.From {
				isSource[from] = true
			}
		}
	}
	slices.Reverse(sources)
	return sources, api.OK
}

// Heirs returns the bales that were made from a bale, directly or not.
func (v *View) Heirs(bale int) ([]int, api.Errno) {
	if !v.isView() {
		return nil, api.ErrNil
	}
	if _, ok := v.state.bales.Get(bale); !ok {
		return nil, api.ErrNone
	}
	var isOf [api.MaxBales + 1]bool
	isOf[bale] = true
	var heirs []int
	for no, b := range v.state.bales.From(bale + 1) {
		if slices.ContainsFunc(b.From, func(from int) bool { return isOf[from] }) {
			isOf[no] = true
			heirs = append(heirs, no)
		}
	}
	return heirs, api.OK
}

// isView reports whether At made v.
func (v *View) isView() bool { return v != nil && v.isMade }

// shownBale returns a copy of a bale that shares no memory with it.
func shownBale(b *api.Bale) api.Bale {
	shown := *b
	shown.Parts, shown.From = slices.Clone(b.Parts), slices.Clone(b.From)
	return shown
}

// shownLot returns a copy of a lot that shares no memory with it.
func shownLot(l *api.Lot) api.Lot {
	shown := *l
	shown.Bales = slices.Clone(l.Bales)
	return shown
}
