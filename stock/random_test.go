package stock_test

import (
	"fmt"
	"math/rand/v2"
	"slices"
	"testing"

	"merino/api"
	"merino/stock"
)

// life is a store with what it must be: the states and the moves of all its
// versions, those that can be made again too.
type life struct {
	store  *stock.Store
	states []*model
	moves  []api.Move
	now    int
}

func newLife() *life {
	return &life{store: stock.New(), states: []*model{{lots: map[string]api.Lot{}}}, moves: []api.Move{{}}}
}

// step makes a move, or undoes one or makes it again, and tells whether the
// store did what it had to.
func (l *life) step(d *rand.Rand) error {
	switch d.IntN(12) {
	case 0:
		want := api.ErrNone
		if l.now > 0 {
			want, l.now = api.OK, l.now-1
		}
		if e := l.store.Undo(); e != want {
			return fmt.Errorf("undo: error %d, not %d", e, want)
		}
		return nil
	case 1:
		want := api.ErrNone
		if l.now+1 < len(l.states) {
			want, l.now = api.OK, l.now+1
		}
		if e := l.store.Redo(); e != want {
			return fmt.Errorf("redo: error %d, not %d", e, want)
		}
		return nil
	}
	m := anyMove(d, l.states[l.now])
	passed := fmt.Sprint(m)
	next := l.states[l.now].clone()
	want, wantErr := next.do(m)
	if wantErr == api.OK {
		l.now++
		l.states = append(l.states[:l.now:l.now], next)
		l.moves = append(l.moves[:l.now:l.now], bare(m))
	} else {
		want = 0
	}
	no, e := carryOut(d, l.store, m)
	if no != want || e != wantErr {
		return fmt.Errorf("%v: %d, error %d; not %d, error %d", m, no, e, want, wantErr)
	}
	if fmt.Sprint(m) != passed {
		return fmt.Errorf("%s: the move is %v now", passed, m)
	}
	return nil
}

// bare is a move with the fields alone that Do names for it.
func bare(m api.Move) api.Move {
	no, nos := api.Move{What: m.What, No: m.No}, api.Move{What: m.What, Nos: slices.Clone(m.Nos)}
	noGrams, name := api.Move{What: m.What, No: m.No, Grams: m.Grams}, api.Move{What: m.What, Name: m.Name}
	return map[int]api.Move{
		1:  {What: 1, Name: m.Name, Owner: m.Owner},
		2:  {What: 2, No: m.No, Kind: m.Kind, Grams: m.Grams},
		3:  noGrams,
		4:  nos,
		5:  noGrams,
		6:  noGrams,
		7:  no,
		8:  no,
		9:  no,
		10: {What: 10, Name: m.Name, Nos: slices.Clone(m.Nos)},
		11: name,
		12: name,
	}[m.What]
}

// carryOut carries out a move through Do or through the method of its own.
func carryOut(d *rand.Rand, s *stock.Store, m api.Move) (int, api.Errno) {
	if d.IntN(2) == 0 {
		return s.Do(m)
	}
	switch m.What {
	case 1:
		return s.Clip(m.Name, m.Owner)
	case 2:
		return s.Receive(m.No, m.Kind, m.Grams)
	case 3:
		return s.Split(m.No, m.Grams)
	case 4:
		return s.Merge(m.Nos)
	case 5:
		return 0, s.Core(m.No, m.Grams)
	case 6:
		return 0, s.Weigh(m.No, m.Grams)
	case 7:
		return 0, s.Hold(m.No)
	case 8:
		return 0, s.Release(m.No)
	case 9:
		return 0, s.Waste(m.No)
	case 10:
		return 0, s.Lot(m.Name, m.Nos)
	case 11:
		return 0, s.Unlot(m.Name)
	case 12:
		return 0, s.Send(m.Name)
	}
	return s.Do(m)
}

// lived is a life of some steps, each of which was compared with the model.
func lived(t *testing.T, seed uint64, steps int) *life {
	t.Helper()
	d, l := dice(seed), newLife()
	for i := range steps {
		if e := l.step(d); e != nil {
			t.Fatalf("seed %d, step %d: %v", seed, i, e)
		}
		equal(t, "version", l.store.Version(), l.now)
	}
	return l
}

// P4.1 to P4.8: a store does what the words of the chapter say, and every
// version shows what they make of it.
func TestModel(t *testing.T) {
	for seed := range uint64(60) {
		l := lived(t, seed, 150)
		equal(t, "moves", l.store.Moves(), l.moves[1:l.now+1])
		for i, got := range pictures(t, l.store) {
			equal(t, fmt.Sprint("seed ", seed, ", version ", i), got, l.states[i].picture())
		}
		for a := -1; a <= l.now+2; a++ {
			b := dice(seed+uint64(a+1)).IntN(l.now+4) - 1
			nos, e := l.store.Compare(a, b)
			if min(a, b) < 0 || max(a, b) > l.now {
				equal(t, "compare", []any{nos, e}, []any{[]int{}, api.ErrNone})
				continue
			}
			equal(t, "compare", []any{nos, e}, []any{differing(l.states[a], l.states[b]), api.OK})
		}
	}
}

// P4.1 to P4.5: the random stores reach every answer of every move.
func TestModelReachesAll(t *testing.T) {
	seen := map[string]bool{}
	for seed := range uint64(60) {
		d := dice(seed)
		m := &model{lots: map[string]api.Lot{}}
		for range 150 {
			v, next := anyMove(d, m), m.clone()
			_, e := next.do(v)
			if e == api.OK {
				m = next
			}
			seen[fmt.Sprint(v.What, " ", e)] = true
		}
	}
	for _, want := range []string{
		"1 0", "1 2", "1 8", "2 0", "2 2", "2 7", "3 0", "3 2", "3 7", "3 10", "3 11",
		"4 0", "4 2", "4 3", "4 7", "4 10", "4 12", "5 0", "5 2", "5 7", "5 10", "5 11",
		"6 0", "6 2", "6 7", "6 10", "7 0", "7 7", "7 10", "8 0", "8 7", "8 10", "9 0", "9 7", "9 10",
		"10 0", "10 2", "10 3", "10 7", "10 8", "10 10", "10 12", "11 0", "11 7", "11 10", "12 0", "12 7", "12 10", "0 2", "13 2",
	} {
		if !seen[want] {
			t.Error("never reached: ", want)
		}
	}
}

// P4.9: in every version no gram is lost or made.
func TestToTheLastGram(t *testing.T) {
	for seed := range uint64(40) {
		l := lived(t, 100+seed, 200)
		for i := range l.store.Version() + 1 {
			v, e := l.store.At(i)
			ok(t, e)
			balanced(t, v)
		}
	}
}

// balanced fails the test unless P4.9 holds in a view.
func balanced(t *testing.T, v *stock.View) {
	t.Helper()
	for _, c := range v.Clips() {
		n, e := v.Totals(c.No)
		if e != api.OK || n.In+n.Air != n.Live+n.Cored+n.Wasted+n.Sent {
			t.Error("clip ", c.No, n, e)
		}
	}
	for _, b := range v.Bales() {
		sum, last := 0, 0
		for _, p := range b.Parts {
			if p.Clip <= last || p.Grams < 1 {
				t.Error("parts of ", b)
			}
			sum, last = sum+p.Grams, p.Clip
		}
		if sum != b.Grams || len(b.Parts) == 0 {
			t.Error("parts of ", b)
		}
	}
}

// P4.10: the moves of a store make the same views again.
func TestMovesMakeTheStoreAgain(t *testing.T) {
	for seed := range uint64(40) {
		l := lived(t, 200+seed, 150)
		again := stock.New()
		for i, m := range l.store.Moves() {
			no, e := again.Do(m)
			if e != api.OK {
				t.Fatal(seed, i, m, no, e)
			}
		}
		equal(t, seed, album(t, again), album(t, l.store))
	}
}

// P4.11: Undo behind a change gives back all views, Redo the change.
func TestUndoAndRedo(t *testing.T) {
	for seed := range uint64(40) {
		d, l := dice(300+seed), newLife()
		for range 60 {
			before := album(t, l.store)
			if _, e := l.store.Do(anyMove(d, l.states[l.now])); e != api.OK {
				equal(t, "refused", album(t, l.store), before)
				continue
			}
			after := album(t, l.store)
			ok(t, l.store.Undo())
			equal(t, "undone", album(t, l.store), before)
			ok(t, l.store.Redo())
			equal(t, "made again", album(t, l.store), after)
			fails(t, "nothing to redo", l.store.Redo(), api.ErrNone)
			next := l.states[l.now].clone()
			next.do(l.store.Moves()[l.store.Version()-1])
			l.states, l.now = append(l.states, next), l.now+1
		}
		whole := album(t, l.store)
		last := l.store.Version()
		for range last {
			ok(t, l.store.Undo())
		}
		equal(t, "version 0", album(t, l.store), album(t, stock.New()))
		fails(t, "nothing to undo", l.store.Undo(), api.ErrNone)
		for range last {
			ok(t, l.store.Redo())
		}
		equal(t, "all again", album(t, l.store), whole)
	}
}

// P4.12: sources and heirs are each other's, sources have lower numbers, and
// the wool of a live bale was received in it or in its sources.
func TestDescent(t *testing.T) {
	for seed := range uint64(40) {
		v := now(t, lived(t, 400+seed, 200).store)
		bales := v.Bales()
		for _, b := range bales {
			sources, e := v.Sources(b.No)
			ok(t, e)
			for _, other := range bales {
				heirs, e := v.Heirs(other.No)
				ok(t, e)
				if slices.Contains(sources, other.No) != slices.Contains(heirs, b.No) {
					t.Error("bales ", b.No, other.No, sources, heirs)
				}
			}
			received := map[int]bool{}
			for _, no := range append(sources, b.No) {
				from := bales[no-1]
				if no > b.No || no == b.No && slices.Contains(sources, no) {
					t.Error("bale ", b.No, " has the source ", no)
				}
				// A received bale has wool of its clip alone.
				if len(from.From) == 0 {
					received[from.Parts[0].Clip] = true
				}
			}
			for _, p := range b.Parts {
				if b.State != api.BaleGone && !received[p.Clip] {
					t.Error("bale ", b, " has wool of clip ", p.Clip)
				}
			}
		}
	}
}
