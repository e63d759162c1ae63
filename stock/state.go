package stock

import (
	"slices"

	"merino/api"
	"merino/tree"
)

// state is what the store has in a version. Its maps never change, nor does
// what is in them, so that a copy of a state is a state of its own.
type state struct {
	clips  tree.Map[int, api.Clip]
	totals tree.Map[int, api.Totals] // for each clip, without Live
	bales  tree.Map[int, *api.Bale]
	lots   tree.Map[string, *api.Lot]
}

// isSame reports whether two records of one bale are equal.
func isSame(a, b *api.Bale) bool {
	return a.Kind == b.Kind && a.Grams == b.Grams && a.State == b.State && a.Lot == b.Lot &&
		slices.Equal(a.Parts, b.Parts) && slices.Equal(a.From, b.From)
}

// find returns a bale that is in one of the states that are named.
func (s *state) find(no int, states ...int) (*api.Bale, api.Errno) {
	b, ok := s.bales.Get(no)
	if !ok {
		return nil, api.ErrNone
	}
	if !slices.Contains(states, b.State) {
		return nil, api.ErrState
	}
	return b, api.OK
}

// gather returns the bales of a list, which must be free, of one kind, and
// each there once.
func (s *state) gather(nos []int) ([]*api.Bale, api.Errno) {
	var bales []*api.Bale
	for i, no := range nos {
		// A number that stood before is that of a free bale: no other error applies.
		if slices.Contains(nos[:i], no) {
			return nil, api.ErrArg
		}
		b, err := s.find(no, api.BaleFree)
		if err != api.OK {
			return nil, err
		}
		bales = append(bales, b)
	}
	for _, b := range bales {
		if b.Kind != bales[0].Kind {
			return nil, api.ErrKind
		}
	}
	return bales, api.OK
}

// unsent returns a lot that was not sent.
func (s *state) unsent(name string) (*api.Lot, api.Errno) {
	lot, ok := s.lots.Get(name)
	if !ok {
		return nil, api.ErrNone
	}
	if lot.Sent {
		return nil, api.ErrState
	}
	return lot, api.OK
}

// add gives a new bale its number and puts it into the store.
func (s *state) add(b api.Bale) (int, api.Errno) {
	if s.bales.Len() == api.MaxBales {
		return 0, api.ErrFull
	}
	b.No = s.bales.Len() + 1
	s.put(b)
	return b.No, api.OK
}

// put replaces the record of a bale.
func (s *state) put(b api.Bale) { s.bales = s.bales.Put(b.No, &b) }

// move moves a bale to another state, in which it has the lot of that name.
func (s *state) move(b api.Bale, to int, lot string) {
	b.State, b.Lot = to, lot
	s.put(b)
}

// moveAll moves the bales of a lot.
func (s *state) moveAll(bales []int, to int, lot string) {
	for _, no := range bales {
		b, _ := s.bales.Get(no)
		s.move(*b, to, lot)
	}
}

// count adds parts of bales to the totals of their clips.
func (s *state) count(parts []api.Part, add func(t *api.Totals, grams int)) {
	for _, p := range parts {
		t, _ := s.totals.Get(p.Clip)
		add(&t, p.Grams)
		s.totals = s.totals.Put(p.Clip, t)
	}
}
