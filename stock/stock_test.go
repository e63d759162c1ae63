package stock_test

import (
	"fmt"
	"slices"
	"testing"

	"merino/api"
	"merino/stock"
)

// A new store has version 0, without clips, bales and lots; P4.6, P4.7.
func TestNew(t *testing.T) {
	s := stock.New()
	equal(t, "version", s.Version(), 0)
	equal(t, "moves", s.Moves(), []api.Move{})
	equal(t, "view", picture(now(t, s)), "[] []\n")
	nos, e := s.Compare(0, 0)
	equal(t, "compare", []any{nos, e}, []any{[]int{}, api.OK})
	refused(t, s, "undo", func() (int, api.Errno) { return 0, s.Undo() }, api.ErrNone)
	refused(t, s, "redo", func() (int, api.Errno) { return 0, s.Redo() }, api.ErrNone)
}

// P4.5: Do returns what the change returns, and ErrArg for no change.
func TestDo(t *testing.T) {
	s := stock.New()
	for i, c := range []struct {
		m    api.Move
		want int
	}{
		{api.Move{What: api.MoveClip, Name: "m", Owner: "anna"}, 1},
		{api.Move{What: api.MoveReceive, No: 1, Kind: fine, Grams: 100}, 1},
		{api.Move{What: api.MoveSplit, No: 1, Grams: 40}, 2},
		{api.Move{What: api.MoveMerge, Nos: []int{2, 1}}, 3},
		{api.Move{What: api.MoveCore, No: 3, Grams: 1}, 0},
		{api.Move{What: api.MoveWeigh, No: 3, Grams: 100}, 0},
		{api.Move{What: api.MoveHold, No: 3}, 0},
		{api.Move{What: api.MoveRelease, No: 3}, 0},
		{api.Move{What: api.MoveLot, Name: "l", Nos: []int{3}}, 0},
		{api.Move{What: api.MoveUnlot, Name: "l"}, 0},
		{api.Move{What: api.MoveLot, Name: "l", Nos: []int{3}}, 0},
		{api.Move{What: api.MoveSend, Name: "l"}, 0},
		{api.Move{What: api.MoveReceive, No: 1, Kind: coarse, Grams: 100}, 4},
		{api.Move{What: api.MoveWaste, No: 4}, 0},
	} {
		no, e := s.Do(c.m)
		same(t, c.m, no, e, c.want, api.OK)
		equal(t, "version", s.Version(), i+1)
	}
	for _, what := range append(hostile, 13, -12) {
		if what < api.MoveClip || what > api.MoveSend {
			m := api.Move{What: what, No: 1, Nos: []int{1}, Grams: 1, Name: "a", Owner: "b"}
			refused(t, s, what, do(s, m), api.ErrArg)
		}
	}
}

// P4.5 and P4.7: fields that Do does not name for a change play no part, and
// Moves has them zero.
func TestOtherFieldsPlayNoPart(t *testing.T) {
	s := stock.New()
	var want []api.Move
	for _, what := range []int{1, 2, 2, 2, 3, 5, 6, 7, 8, 9, 4, 10, 11, 10, 12} {
		m := api.Move{What: what, No: 1, Nos: []int{2, 3}, Grams: 7, Kind: fine, Name: "l", Owner: "o"}
		if what == api.MoveReceive {
			m.Grams = 100
		}
		if what >= api.MoveLot {
			m.Nos = []int{5}
		}
		_, e := s.Do(m)
		ok(t, e)
		want = append(want, bare(m))
	}
	equal(t, "moves", s.Moves(), want)
	for _, m := range s.Moves() {
		if m.What != api.MoveMerge && m.What != api.MoveLot && m.Nos != nil {
			t.Error("numbers of ", m)
		}
	}
}

// P4.6: a change that succeeds forgets what could be done again; one that is
// refused does not.
func TestRedoIsForgotten(t *testing.T) {
	s := filled(t, 10, 20, 30)
	ok(t, s.Hold(1), s.Hold(2), s.Hold(3), s.Undo(), s.Undo(), s.Undo())
	refused(t, s, "release", do(s, api.Move{What: api.MoveRelease, No: 1}), api.ErrState)
	ok(t, s.Redo())
	equal(t, "held", bale(t, s, 1).State, api.BaleHeld)
	equal(t, "free", bale(t, s, 2).State, api.BaleFree)
	ok(t, s.Waste(3))
	fails(t, "redo", s.Redo(), api.ErrNone)
	equal(t, "version", s.Version(), 6)
	equal(t, "free", bale(t, s, 2).State, api.BaleFree)
	ok(t, s.Undo(), s.Undo(), s.Redo(), s.Redo())
	fails(t, "redo", s.Redo(), api.ErrNone)
	equal(t, "gone", bale(t, s, 3).State, api.BaleGone)
}

// An undone change gives its number back.
func TestNumbersAreGivenBack(t *testing.T) {
	s := filled(t, 10)
	for range 3 {
		no, e := s.Split(1, 5)
		same(t, "split", no, e, 2, api.OK)
		ok(t, s.Undo())
	}
	ok(t, s.Undo(), s.Undo())
	no, e := s.Clip("n", "ben")
	same(t, "clip", no, e, 1, api.OK)
	no, e = s.Receive(1, fine, 3)
	same(t, "receive", no, e, 1, api.OK)
	ok(t, s.Waste(1))
	no, e = s.Receive(1, fine, 4)
	same(t, "the number of a gone bale is not used again", no, e, 2, api.OK)
}

// P4.1 to P4.6: there are at most MaxVersions versions; ErrFull comes after
// all other errors.
func TestTooManyVersions(t *testing.T) {
	s := filled(t, 100, 100)
	ok(t, second(s.Receive(1, coarse, 100)), s.Lot("l", []int{3}))
	for s.Version() < api.MaxVersions {
		ok(t, s.Weigh(1, 100+s.Version()%2))
	}
	before := album(t, s)
	for _, c := range []struct {
		m    api.Move
		want api.Errno
	}{
		{api.Move{What: 0}, api.ErrArg},
		{api.Move{What: 1, Name: "n", Owner: "o"}, api.ErrFull},
		{api.Move{What: 1, Name: "m", Owner: "o"}, api.ErrExists},
		{api.Move{What: 2, No: 1, Grams: 1}, api.ErrFull},
		{api.Move{What: 2, No: 1}, api.ErrArg},
		{api.Move{What: 3, No: 1, Grams: 1}, api.ErrFull},
		{api.Move{What: 3, No: 1, Grams: 102}, api.ErrMass},
		{api.Move{What: 4, Nos: []int{1, 2}}, api.ErrFull},
		{api.Move{What: 4, Nos: []int{1, 2, 1}}, api.ErrArg},
		{api.Move{What: 5, No: 1, Grams: 1}, api.ErrFull},
		{api.Move{What: 5, No: 1, Grams: 102}, api.ErrMass},
		{api.Move{What: 6, No: 1, Grams: 1}, api.ErrFull},
		{api.Move{What: 6, No: 1}, api.ErrArg},
		{api.Move{What: 7, No: 1}, api.ErrFull},
		{api.Move{What: 7, No: 3}, api.ErrState},
		{api.Move{What: 8, No: 1}, api.ErrState},
		{api.Move{What: 9, No: 1}, api.ErrFull},
		{api.Move{What: 9, No: 4}, api.ErrNone},
		{api.Move{What: 10, Name: "k", Nos: []int{1}}, api.ErrFull},
		{api.Move{What: 10, Name: "l", Nos: []int{1}}, api.ErrExists},
		{api.Move{What: 11, Name: "l"}, api.ErrFull},
		{api.Move{What: 11, Name: "k"}, api.ErrNone},
		{api.Move{What: 12, Name: "l"}, api.ErrFull},
		{api.Move{What: 12, Name: "k"}, api.ErrNone},
	} {
		no, e := s.Do(c.m)
		same(t, c.m, no, e, 0, c.want)
	}
	if album(t, s) != before {
		t.Error("a refused change changed the store")
	}
	ok(t, s.Undo(), s.Redo(), s.Undo(), s.Send("l"))
	equal(t, "version", s.Version(), api.MaxVersions)
	fails(t, "hold", s.Hold(1), api.ErrFull)
	_, e := s.At(api.MaxVersions)
	ok(t, e)
}

// P4.7: Moves is as the changes were passed, whatever became of the lists.
func TestMovesAreKeptAsPassed(t *testing.T) {
	s := filled(t, 10, 20, 30)
	nos := []int{3, 1}
	ok(t, s.Lot("l", nos))
	nos[0] = 2
	m := api.Move{What: api.MoveLot, Name: "k", Nos: nos[:1]}
	ok(t, second(s.Do(m)))
	nos[0] = 9
	want := "[{1 0 [] 0 [0 0 0 0] m anna} {2 1 [] 10 [97 97 0 0]  } {2 1 [] 20 [97 97 0 0]  } {2 1 [] 30 [97 97 0 0]  } " +
		"{10 0 [3 1] 0 [0 0 0 0] l } {10 0 [2] 0 [0 0 0 0] k }]"
	equal(t, "moves", s.Moves(), want)
	s.Moves()[4].Nos[0] = 7
	equal(t, "moves", s.Moves(), want)
	lot, _ := now(t, s).Lot("l")
	equal(t, "lot", lot.Bales, []int{1, 3})
	ok(t, s.Undo())
	equal(t, "moves", len(s.Moves()), 5)
}

// P4.7: At has the versions from 0 to the current one.
func TestAt(t *testing.T) {
	s := filled(t, 10, 20)
	ok(t, s.Undo())
	for _, n := range append(hostile, 4) {
		v, e := s.At(n)
		if 0 <= n && n <= 2 {
			equal(t, n, []any{len(v.Bales()), e}, []any{max(0, n-1), api.OK})
		} else if v != nil || e != api.ErrNone {
			t.Error(n, v, e)
		}
	}
}

// P4.7: a view stays as it is, even if its version is undone and another one
// takes its place.
func TestViewsStay(t *testing.T) {
	l := lived(t, 7, 150)
	s := l.store
	var views []*stock.View
	for i := range s.Version() + 1 {
		v, e := s.At(i)
		ok(t, e)
		views = append(views, v)
	}
	before := pictures(t, s)
	for s.Version() > 0 {
		ok(t, s.Undo())
	}
	d := dice(8)
	l.now = 0
	for range 300 {
		if e := l.step(d); e != nil {
			t.Fatal(e)
		}
	}
	for i, v := range views {
		equal(t, i, picture(v), before[i])
	}
}

// P4.7: Compare finds the bales whose records differ, not those that were
// changed and changed back.
func TestCompare(t *testing.T) {
	s := filled(t, 10, 20, 30) // version 4
	ok(t, second(s.Clip("n", "ben")), s.Hold(2), s.Release(2), s.Weigh(1, 11), s.Weigh(1, 10), s.Weigh(3, 30), s.Lot("l", []int{1}), s.Unlot("l"))
	ok(t, s.Hold(3), s.Core(1, 1), second(s.Split(2, 5)))
	for _, c := range []struct {
		a, b int
		want []int
	}{
		{4, 4, nil}, {4, 5, nil}, {0, 4, []int{1, 2, 3}}, {4, 0, []int{1, 2, 3}}, {4, 6, []int{2}}, {4, 7, nil}, {6, 7, []int{2}},
		{4, 8, []int{1}}, {4, 9, nil}, {4, 10, nil}, {4, 11, []int{1}}, {11, 10, []int{1}}, {4, 12, nil},
		{4, 13, []int{3}}, {13, 14, []int{1}}, {14, 15, []int{2, 4}}, {15, 12, []int{1, 2, 3, 4}}, {1, 2, []int{1}}, {3, 15, []int{1, 2, 3, 4}},
	} {
		nos, e := s.Compare(c.a, c.b)
		equal(t, c, []any{nos, e}, []any{c.want, api.OK})
	}
	for _, n := range append(hostile, 15) {
		if n < 0 || n > 15 {
			for _, m := range []int{0, 15, n} {
				nos, e := s.Compare(n, m)
				equal(t, n, []any{nos, e}, []any{[]int{}, api.ErrNone})
				nos, e = s.Compare(m, n)
				equal(t, n, []any{nos, e}, []any{[]int{}, api.ErrNone})
			}
		}
	}
	ok(t, s.Undo())
	fails(t, "an undone version", compared(s.Compare(15, 15)), api.ErrNone)
}

// compared is the error of Compare alone.
func compared(_ []int, e api.Errno) api.Errno { return e }

// P4.7: records differ if only the lots do.
func TestCompareLots(t *testing.T) {
	s := filled(t, 10, 20)
	ok(t, s.Lot("l", []int{1}), s.Unlot("l"), s.Lot("k", []int{1, 2}))
	nos, e := s.Compare(4, 6)
	equal(t, "compare", []any{nos, e}, []any{[]int{1, 2}, api.OK})
	ok(t, s.Unlot("k"), s.Lot("l", []int{1, 2}))
	nos, e = s.Compare(4, 8)
	equal(t, "compare", []any{nos, e}, []any{[]int{2}, api.OK})
	nos, e = s.Compare(6, 8)
	equal(t, "compare", []any{nos, e}, []any{[]int{1, 2}, api.OK})
}

// P4.7: records of one mass differ if their parts do.
func TestCompareParts(t *testing.T) {
	s := filled(t, 300)
	ok(t, second(s.Clip("n", "ben")), second(s.Receive(2, fine, 200)), second(s.Merge([]int{1, 2})))
	from := s.Version()
	ok(t, s.Core(3, 499), s.Weigh(3, 500))
	nos, e := s.Compare(from, from+2)
	equal(t, "compare", []any{nos, e}, []any{[]int{3}, api.OK})
	equal(t, "parts", bale(t, s, 3).Parts, []api.Part{{Clip: 1, Grams: 500}})
}

// P4.6: a copy has the same versions and the same changes to redo, and is
// independent.
func TestCopy(t *testing.T) {
	for seed := range uint64(20) {
		l := lived(t, 500+seed, 100)
		for _, name := range []string{"u", "v", "w"} {
			ok(t, second(l.store.Clip(name, "o")))
		}
		ok(t, l.store.Undo(), l.store.Undo())
		before, c := album(t, l.store), l.store.Copy()
		equal(t, "copy", album(t, c), before)
		ok(t, l.store.Redo(), l.store.Redo(), c.Redo(), c.Redo())
		fails(t, "redo", c.Redo(), api.ErrNone)
		whole := album(t, c)
		equal(t, "made again", whole, album(t, l.store))
		for range 3 {
			ok(t, c.Undo())
		}
		equal(t, "the other one undone", album(t, l.store), whole)
		changed := fmt.Sprint("only-", seed)
		_, e := l.store.Clip(changed, "o")
		ok(t, e, l.store.Undo(), l.store.Undo())
		ok(t, second(l.store.Clip("x", "o")), second(l.store.Clip("y", "o")))
		ok(t, c.Redo(), c.Redo(), c.Redo())
		equal(t, "the other one changed", album(t, c), whole)
		other := album(t, l.store)
		ok(t, c.Undo(), c.Undo(), second(c.Clip("p", "o")), second(c.Clip("q", "o")))
		equal(t, "the other one changed", album(t, l.store), other)
	}
}

// P4.6: two copies that go on from an undone version do not share what
// follows.
func TestCopiesPart(t *testing.T) {
	s := filled(t, 10)
	for range 20 {
		ok(t, s.Hold(1), s.Release(1))
	}
	ok(t, s.Undo(), s.Undo())
	a, b := s.Copy(), s.Copy()
	ok(t, second(a.Receive(1, fine, 1)), second(b.Receive(1, fine, 2)), second(s.Receive(1, fine, 3)))
	for i, c := range []*stock.Store{a, b, s} {
		equal(t, "mass", bale(t, c, 2).Grams, i+1)
		equal(t, "move", c.Moves()[c.Version()-1].Grams, i+1)
		fails(t, "redo", c.Redo(), api.ErrNone)
	}
	fails(t, "a copy of it", s.Copy().Redo(), api.ErrNone)
}

// Rule 3 of the document: a nil or zero Store or View.
func TestNilAndZero(t *testing.T) {
	for _, s := range []*stock.Store{nil, {}} {
		for what := -1; what < 14; what++ {
			no, e := s.Do(api.Move{What: what, No: 1, Nos: []int{1, 2}, Grams: 1, Name: "m", Owner: "o"})
			same(t, what, no, e, 0, api.ErrNil)
			no, e = carryOut(dice(uint64(what+1)), s, api.Move{What: what})
			same(t, what, no, e, 0, api.ErrNil)
		}
		clip, e := s.Clip("", "")
		same(t, "clip", clip, e, 0, api.ErrNil)
		fails(t, "waste", s.Waste(0), api.ErrNil)
		fails(t, "undo", s.Undo(), api.ErrNil)
		fails(t, "redo", s.Redo(), api.ErrNil)
		v, e := s.At(0)
		nos, e2 := s.Compare(0, 0)
		if s.Copy() != nil || v != nil || e != api.ErrNil || nos != nil || e2 != api.ErrNil || s.Version() != 0 || len(s.Moves()) != 0 {
			t.Error("a store that was not made: ", v, e, nos, e2)
		}
	}
	for _, v := range []*stock.View{nil, {}} {
		if len(v.Clips()) != 0 || len(v.Bales()) != 0 || len(v.Lots()) != 0 {
			t.Error("a view that was not made: ", v)
		}
		for _, n := range []int{-1, 0, 1} {
			b, e := v.Bale(n)
			equal(t, "bale", []any{b, e}, []any{api.Bale{}, api.ErrNil})
			l, e := v.Lot("l")
			equal(t, "lot", []any{l, e}, []any{api.Lot{}, api.ErrNil})
			totals, e := v.Totals(n)
			same(t, "totals", totals, e, api.Totals{}, api.ErrNil)
			sources, e := v.Sources(n)
			equal(t, "sources", []any{sources, e}, []any{[]int{}, api.ErrNil})
			heirs, e := v.Heirs(n)
			equal(t, "heirs", []any{heirs, e}, []any{[]int{}, api.ErrNil})
		}
	}
	if _, e := now(t, stock.New()).Bale(1); e != api.ErrNone {
		t.Error("a view of version 0: error ", e)
	}
}

// Rule 2 of the document: lists that are far too long are refused, or play no
// part.
func TestHugeLists(t *testing.T) {
	s := filled(t, 10)
	huge := slices.Repeat([]int{1}, 1<<16)
	for what := range 14 {
		refused(t, s, what, func() (int, api.Errno) {
			_, e := s.Do(api.Move{What: what, No: 7, Nos: huge, Name: "A"})
			if e != api.OK {
				e = api.ErrArg
			}
			return 0, e
		}, api.ErrArg)
	}
	ok(t, second(s.Do(api.Move{What: api.MoveHold, No: 1, Nos: huge})))
	if s.Moves()[2].Nos != nil {
		t.Error("a list that plays no part is kept")
	}
}
