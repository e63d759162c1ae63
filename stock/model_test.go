package stock_test

import (
	"fmt"
	"math/big"
	"math/rand/v2"
	"slices"
	"strings"

	"merino/api"
)

// model is a store's state by the words of the chapter: plain lists, which
// are copied as a whole.
type model struct {
	clips  []api.Clip
	totals []api.Totals
	bales  []api.Bale
	lots   map[string]api.Lot
}

// clone is a deep copy.
func (m *model) clone() *model {
	c := &model{clips: slices.Clone(m.clips), totals: slices.Clone(m.totals), lots: map[string]api.Lot{}}
	for _, b := range m.bales {
		b.Parts, b.From = slices.Clone(b.Parts), slices.Clone(b.From)
		c.bales = append(c.bales, b)
	}
	for name, l := range m.lots {
		l.Bales = slices.Clone(l.Bales)
		c.lots[name] = l
	}
	return c
}

// bale is a bale of that number, or nil.
func (m *model) bale(no int) *api.Bale {
	if no < 1 || no > len(m.bales) {
		return nil
	}
	return &m.bales[no-1]
}

// must is the error for a bale that must be there in one of these states.
func (m *model) must(no int, states ...int) api.Errno {
	b := m.bale(no)
	if b == nil {
		return api.ErrNone
	}
	if !slices.Contains(states, b.State) {
		return api.ErrState
	}
	return api.OK
}

// list is the error for the numbers of Merge and Lot.
func (m *model) list(nos []int) api.Errno {
	stood := map[int]bool{}
	for _, no := range nos {
		switch {
		case m.bale(no) == nil:
			return api.ErrNone
		case stood[no]:
			return api.ErrArg
		case m.bale(no).State != api.BaleFree:
			return api.ErrState
		}
		stood[no] = true
	}
	for _, no := range nos {
		if m.bale(no).Kind != m.bale(nos[0]).Kind {
			return api.ErrKind
		}
	}
	return api.OK
}

// shares divides grams by largest remainders, the first of equal ones first.
func shares(grams int, parts []api.Part) []int {
	whole := 0
	for _, p := range parts {
		whole += p.Grams
	}
	var floors []int
	var rests []*big.Rat
	left := grams
	for _, p := range parts {
		exact := new(big.Rat).Mul(big.NewRat(int64(grams), 1), big.NewRat(int64(p.Grams), int64(whole)))
		floor := new(big.Int).Div(exact.Num(), exact.Denom())
		floors = append(floors, int(floor.Int64()))
		rests = append(rests, exact.Sub(exact, new(big.Rat).SetInt(floor)))
		left -= int(floor.Int64())
	}
	for ; left > 0; left-- {
		best := 0
		for i := range rests {
			if rests[i].Cmp(rests[best]) > 0 {
				best = i
			}
		}
		floors[best]++
		rests[best] = big.NewRat(-1, 1)
	}
	return floors
}

// set gives a bale the parts of these grams, clip by clip.
func set(b *api.Bale, grams map[int]int) {
	b.Grams, b.Parts = 0, nil
	for clip := 1; clip <= api.MaxClips; clip++ {
		if grams[clip] > 0 {
			b.Grams += grams[clip]
			b.Parts = append(b.Parts, api.Part{Clip: clip, Grams: grams[clip]})
		}
	}
}

// grams are those of a bale, clip by clip.
func grams(b api.Bale) map[int]int {
	all := map[int]int{}
	for _, p := range b.Parts {
		all[p.Clip] = p.Grams
	}
	return all
}

// take takes grams out of a bale and tells what went.
func (m *model) take(no, mass int) (map[int]int, api.Errno) {
	b := m.bale(no)
	if mass < 1 {
		return nil, api.ErrArg
	}
	if mass >= b.Grams {
		return nil, api.ErrMass
	}
	left, gone := grams(*b), map[int]int{}
	for i, n := range shares(mass, b.Parts) {
		left[b.Parts[i].Clip] -= n
		gone[b.Parts[i].Clip] += n
	}
	set(b, left)
	return gone, api.OK
}

// next puts a bale behind the others.
func (m *model) next(b api.Bale) (int, api.Errno) {
	if len(m.bales) >= api.MaxBales {
		return 0, api.ErrFull
	}
	b.No = len(m.bales) + 1
	m.bales = append(m.bales, b)
	return b.No, api.OK
}

// do carries out a move; with an error the model is spoilt.
func (m *model) do(v api.Move) (int, api.Errno) {
	switch v.What {
	case api.MoveClip:
		return m.clip(v)
	case api.MoveReceive:
		if v.No < 1 || v.No > len(m.clips) {
			return 0, api.ErrNone
		}
		if v.Grams < 1 || v.Grams > api.MaxMass {
			return 0, api.ErrArg
		}
		m.totals[v.No-1].In += v.Grams
		return m.next(api.Bale{Kind: v.Kind, Grams: v.Grams, Parts: []api.Part{{Clip: v.No, Grams: v.Grams}}})
	case api.MoveSplit:
		if e := m.must(v.No, api.BaleFree); e != api.OK {
			return 0, e
		}
		gone, e := m.take(v.No, v.Grams)
		if e != api.OK {
			return 0, e
		}
		b := api.Bale{Kind: m.bale(v.No).Kind, From: []int{v.No}}
		set(&b, gone)
		return m.next(b)
	case api.MoveMerge:
		return m.merge(v)
	case api.MoveCore, api.MoveWeigh:
		return 0, m.weigh(v)
	case api.MoveHold:
		return 0, m.turn(v.No, api.BaleFree, api.BaleHeld)
	case api.MoveRelease:
		return 0, m.turn(v.No, api.BaleHeld, api.BaleFree)
	case api.MoveWaste:
		e := m.turn(v.No, api.BaleFree, api.BaleGone)
		if e == api.OK {
			for clip, n := range grams(*m.bale(v.No)) {
				m.totals[clip-1].Wasted += n
			}
		}
		return 0, e
	case api.MoveLot:
		return 0, m.lot(v)
	case api.MoveUnlot, api.MoveSend:
		return 0, m.end(v)
	}
	return 0, api.ErrArg
}

func (m *model) clip(v api.Move) (int, api.Errno) {
	if slices.Contains(notNames, v.Name) || slices.Contains(notNames, v.Owner) {
		return 0, api.ErrArg
	}
	if slices.ContainsFunc(m.clips, func(c api.Clip) bool { return c.Name == v.Name }) {
		return 0, api.ErrExists
	}
	if len(m.clips) >= api.MaxClips {
		return 0, api.ErrFull
	}
	m.clips = append(m.clips, api.Clip{No: len(m.clips) + 1, Name: v.Name, Owner: v.Owner})
	m.totals = append(m.totals, api.Totals{})
	return len(m.clips), api.OK
}

func (m *model) merge(v api.Move) (int, api.Errno) {
	if len(v.Nos) > 16 {
		return 0, api.ErrLimit
	}
	if len(v.Nos) < 2 {
		return 0, api.ErrArg
	}
	if e := m.list(v.Nos); e != api.OK {
		return 0, e
	}
	b := api.Bale{Kind: m.bale(v.Nos[0]).Kind, From: slices.Clone(v.Nos)}
	all := map[int]int{}
	for _, no := range v.Nos {
		for clip, n := range grams(*m.bale(no)) {
			all[clip] += n
		}
		m.bale(no).State = api.BaleGone
	}
	slices.Sort(b.From)
	set(&b, all)
	if b.Grams > api.MaxMass {
		return 0, api.ErrRange
	}
	return m.next(b)
}

// weigh carries out Core and Weigh.
func (m *model) weigh(v api.Move) api.Errno {
	if e := m.must(v.No, api.BaleFree, api.BaleLotted); e != api.OK {
		return e
	}
	b := m.bale(v.No)
	if v.What == api.MoveCore {
		gone, e := m.take(v.No, v.Grams)
		for clip, n := range gone {
			m.totals[clip-1].Cored += n
		}
		return e
	}
	if v.Grams < 1 || v.Grams > api.MaxMass {
		return api.ErrArg
	}
	old, new := grams(*b), map[int]int{}
	for i, n := range shares(v.Grams, b.Parts) {
		new[b.Parts[i].Clip] = n
	}
	for clip, n := range old {
		m.totals[clip-1].Air += new[clip] - n
	}
	set(b, new)
	return api.OK
}

// turn changes the state of a bale.
func (m *model) turn(no, from, to int) api.Errno {
	e := m.must(no, from)
	if e == api.OK {
		m.bale(no).State = to
	}
	return e
}

func (m *model) lot(v api.Move) api.Errno {
	if slices.Contains(notNames, v.Name) {
		return api.ErrArg
	}
	if _, has := m.lots[v.Name]; has {
		return api.ErrExists
	}
	if len(v.Nos) > 16 {
		return api.ErrLimit
	}
	if len(v.Nos) == 0 {
		return api.ErrArg
	}
	if e := m.list(v.Nos); e != api.OK {
		return e
	}
	if len(m.lots) >= api.MaxLots {
		return api.ErrFull
	}
	l := api.Lot{Name: v.Name, Bales: slices.Clone(v.Nos)}
	slices.Sort(l.Bales)
	m.lots[v.Name] = l
	for _, no := range v.Nos {
		m.bale(no).State, m.bale(no).Lot = api.BaleLotted, v.Name
	}
	return api.OK
}

// end carries out Unlot and Send.
func (m *model) end(v api.Move) api.Errno {
	l, has := m.lots[v.Name]
	if !has {
		return api.ErrNone
	}
	if l.Sent {
		return api.ErrState
	}
	l.Sent = true
	m.lots[v.Name] = l
	for _, no := range l.Bales {
		b := m.bale(no)
		if v.What == api.MoveUnlot {
			b.State, b.Lot = api.BaleFree, ""
			continue
		}
		b.State = api.BaleGone
		for clip, n := range grams(*b) {
			m.totals[clip-1].Sent += n
		}
	}
	if v.What == api.MoveUnlot {
		delete(m.lots, v.Name)
	}
	return api.OK
}

// isFrom tells whether a bale was made from another one, directly or not.
func (m *model) isFrom(no, source int) bool {
	return slices.ContainsFunc(m.bale(no).From, func(from int) bool { return from == source || m.isFrom(from, source) })
}

// picture is what picture of a view must be.
func (m *model) picture() string {
	var all strings.Builder
	var lots []api.Lot
	for _, l := range m.lots {
		lots = append(lots, l)
	}
	slices.SortFunc(lots, func(a, b api.Lot) int { return strings.Compare(a.Name, b.Name) })
	fmt.Fprintln(&all, m.clips, lots)
	for _, b := range m.bales {
		var sources, heirs []int
		for other := 1; other <= len(m.bales); other++ {
			if m.isFrom(b.No, other) {
				sources = append(sources, other)
			}
			if m.isFrom(other, b.No) {
				heirs = append(heirs, other)
			}
		}
		fmt.Fprintln(&all, b, sources, heirs)
	}
	for i, n := range m.totals {
		for _, b := range m.bales {
			if b.State != api.BaleGone {
				n.Live += grams(b)[i+1]
			}
		}
		fmt.Fprintln(&all, n)
	}
	return all.String()
}

// differing are the bales that two states do not have alike.
func differing(a, b *model) []int {
	var nos []int
	for no := 1; no <= len(a.bales) || no <= len(b.bales); no++ {
		x, y := a.bale(no), b.bale(no)
		if x == nil || y == nil || fmt.Sprint(*x) != fmt.Sprint(*y) {
			nos = append(nos, no)
		}
	}
	return nos
}

// anyMove is a move that a busy store may be asked for; many are refused.
func anyMove(d *rand.Rand, m *model) api.Move {
	name := func() string {
		if d.IntN(20) == 0 {
			return notNames[d.IntN(len(notNames))]
		}
		return names[d.IntN(len(names))]
	}
	no := func() int { return d.IntN(len(m.bales)+2) - d.IntN(2) }
	nos := func() []int {
		var list []int
		for range 1 + d.IntN(4)*d.IntN(2) + d.IntN(40)/38*16 {
			list = append(list, no())
		}
		return list
	}
	v := api.Move{What: 1 + d.IntN(12), No: no(), Nos: nos(), Kind: fine, Name: name(), Owner: name()}
	if d.IntN(30) == 0 {
		v.What = d.IntN(20) - 4
	}
	if d.IntN(9) == 0 {
		v.Kind = coarse
	}
	if v.What == api.MoveReceive {
		v.No = d.IntN(len(m.clips) + 2)
	}
	v.Grams = 1 + d.IntN(1+d.IntN(1000))
	if d.IntN(20) == 0 {
		v.Grams = hostile[d.IntN(len(hostile))]
	}
	return v
}
