package stock

import (
	"slices"

	"merino/api"
	"merino/names"
)

// mostListed is how many bales a list can name.
const mostListed = 16

// changes returns, for each What of a move, what carries it out on a state
// and returns the number that it gives out, or 0. With an error, the state
// may be half changed: Do changes a copy and drops it then.
func changes() map[int]func(*state, api.Move) (int, api.Errno) {
	return map[int]func(*state, api.Move) (int, api.Errno){
		api.MoveClip:    (*state).clip,
		api.MoveReceive: (*state).receive,
		api.MoveSplit:   (*state).split,
		api.MoveMerge:   (*state).merge,
		api.MoveCore:    (*state).core,
		api.MoveWeigh:   (*state).weigh,
		api.MoveHold:    (*state).hold,
		api.MoveRelease: (*state).release,
		api.MoveWaste:   (*state).waste,
		api.MoveLot:     (*state).lot,
		api.MoveUnlot:   (*state).unlot,
		api.MoveSend:    (*state).send,
	}
}

// clip registers a clip.
func (s *state) clip(m api.Move) (int, api.Errno) {
	if !names.Valid(m.Name) || !names.Valid(m.Owner) {
		return 0, api.ErrArg
	}
	for _, c := range s.clips.All() {
		if c.Name == m.Name {
			return 0, api.ErrExists
		}
	}
	if s.clips.Len() == api.MaxClips {
		return 0, api.ErrFull
	}
	no := s.clips.Len() + 1
	s.clips = s.clips.Put(no, api.Clip{No: no, Name: m.Name, Owner: m.Owner})
	s.totals = s.totals.Put(no, api.Totals{})
	return no, api.OK
}

// receive makes a bale of new wool.
func (s *state) receive(m api.Move) (int, api.Errno) {
	if _, ok := s.clips.Get(m.No); !ok {
		return 0, api.ErrNone
	}
	if m.Grams < 1 || m.Grams > api.MaxMass {
		return 0, api.ErrArg
	}
	parts := []api.Part{{Clip: m.No, Grams: m.Grams}}
	s.count(parts, func(t *api.Totals, grams int) { t.In += grams })
	return s.add(api.Bale{Kind: m.Kind, Grams: m.Grams, Parts: parts})
}

// split makes a bale of some grams of another one.
func (s *state) split(m api.Move) (int, api.Errno) {
	b, err := s.find(m.No, api.BaleFree)
	if err != api.OK {
		return 0, err
	}
	taken, err := s.take(*b, m.Grams)
	if err != api.OK {
		return 0, err
	}
	return s.add(api.Bale{Kind: b.Kind, Grams: m.Grams, Parts: some(taken), From: []int{b.No}})
}

// merge makes one bale of several.
func (s *state) merge(m api.Move) (int, api.Errno) {
	if len(m.Nos) > mostListed {
		return 0, api.ErrLimit
	}
	if len(m.Nos) < 2 {
		return 0, api.ErrArg
	}
	bales, err := s.gather(m.Nos)
	if err != api.OK {
		return 0, err
	}
	whole := api.Bale{Kind: bales[0].Kind, Parts: sum(bales), From: slices.Sorted(slices.Values(m.Nos))}
	for _, b := range bales {
		whole.Grams += b.Grams
		s.move(*b, api.BaleGone, "")
	}
	if whole.Grams > api.MaxMass {
		return 0, api.ErrRange
	}
	return s.add(whole)
}

// core takes a sample out of a bale.
func (s *state) core(m api.Move) (int, api.Errno) {
	b, err := s.find(m.No, api.BaleFree, api.BaleLotted)
	if err != api.OK {
		return 0, err
	}
	taken, err := s.take(*b, m.Grams)
	if err != api.OK {
		return 0, err
	}
	s.count(taken, func(t *api.Totals, grams int) { t.Cored += grams })
	return 0, api.OK
}

// take takes grams out of a bale and returns of which clips they are; some of
// the parts that it returns may have no grams.
func (s *state) take(b api.Bale, grams int) ([]api.Part, api.Errno) {
	if grams < 1 {
		return nil, api.ErrArg
	}
	if grams >= b.Grams {
		return nil, api.ErrMass
	}
	taken := divide(grams, b.Parts)
	b.Grams, b.Parts = b.Grams-grams, some(less(b.Parts, taken))
	s.put(b)
	return taken, api.OK
}

// weigh sets the mass of a bale.
func (s *state) weigh(m api.Move) (int, api.Errno) {
	found, err := s.find(m.No, api.BaleFree, api.BaleLotted)
	if err != api.OK {
		return 0, err
	}
	if m.Grams < 1 || m.Grams > api.MaxMass {
		return 0, api.ErrArg
	}
	parts := divide(m.Grams, found.Parts)
	s.count(less(parts, found.Parts), func(t *api.Totals, grams int) { t.Air += grams })
	b := *found
	b.Grams, b.Parts = m.Grams, some(parts)
	s.put(b)
	return 0, api.OK
}

// hold makes a free bale held.
func (s *state) hold(m api.Move) (int, api.Errno) {
	return 0, s.change(m.No, api.BaleFree, api.BaleHeld)
}

// release makes a held bale free.
func (s *state) release(m api.Move) (int, api.Errno) {
	return 0, s.change(m.No, api.BaleHeld, api.BaleFree)
}

// waste makes a free bale gone.
func (s *state) waste(m api.Move) (int, api.Errno) {
	err := s.change(m.No, api.BaleFree, api.BaleGone)
	if err != api.OK {
		return 0, err
	}
	b, _ := s.bales.Get(m.No)
	s.count(b.Parts, func(t *api.Totals, grams int) { t.Wasted += grams })
	return 0, api.OK
}

// change moves a bale that is in no lot from one state to another.
func (s *state) change(no, from, to int) api.Errno {
	b, err := s.find(no, from)
	if err != api.OK {
		return err
	}
	s.move(*b, to, "")
	return api.OK
}

// lot makes a lot.
func (s *state) lot(m api.Move) (int, api.Errno) {
	if !names.Valid(m.Name) {
		return 0, api.ErrArg
	}
	if _, ok := s.lots.Get(m.Name); ok {
		return 0, api.ErrExists
	}
	if len(m.Nos) > mostListed {
		return 0, api.ErrLimit
	}
	if len(m.Nos) == 0 {
		return 0, api.ErrArg
	}
	if _, err := s.gather(m.Nos); err != api.OK {
		return 0, err
	}
	if s.lots.Len() == api.MaxLots {
		return 0, api.ErrFull
	}
	lot := &api.Lot{Name: m.Name, Bales: slices.Sorted(slices.Values(m.Nos))}
	s.lots = s.lots.Put(lot.Name, lot)
	s.moveAll(lot.Bales, api.BaleLotted, lot.Name)
	return 0, api.OK
}

// unlot dissolves a lot.
func (s *state) unlot(m api.Move) (int, api.Errno) {
	lot, err := s.unsent(m.Name)
	if err != api.OK {
		return 0, err
	}
	s.moveAll(lot.Bales, api.BaleFree, "")
	s.lots, _ = s.lots.Delete(lot.Name)
	return 0, api.OK
}

// send sends a lot.
func (s *state) send(m api.Move) (int, api.Errno) {
	lot, err := s.unsent(m.Name)
	if err != api.OK {
		return 0, err
	}
	s.moveAll(lot.Bales, api.BaleGone, lot.Name)
	for _, no := range lot.Bales {
		b, _ := s.bales.Get(no)
		s.count(b.Parts, func(t *api.Totals, grams int) { t.Sent += grams })
	}
	s.lots = s.lots.Put(lot.Name, &api.Lot{Name: lot.Name, Bales: lot.Bales, Sent: true})
	return 0, api.OK
}
