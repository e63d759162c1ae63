package stock_test

import (
	"fmt"
	"slices"
	"testing"

	"merino/api"
	"merino/stock"
)

// P4.1: clips are numbered in the order in which they were registered.
func TestClip(t *testing.T) {
	s := stock.New()
	for i, name := range names {
		no, e := s.Clip(name, names[len(names)-1-i])
		same(t, name, no, e, i+1, api.OK)
	}
	for i, c := range now(t, s).Clips() {
		equal(t, "clip", c, api.Clip{No: i + 1, Name: names[i], Owner: names[len(names)-1-i]})
	}
	for _, name := range notNames {
		refused(t, s, name, func() (int, api.Errno) { return s.Clip(name, "a") }, api.ErrArg)
		refused(t, s, name, func() (int, api.Errno) { return s.Clip("new", name) }, api.ErrArg)
	}
	refused(t, s, "the owner's error before the name's", func() (int, api.Errno) { return s.Clip("a", "A") }, api.ErrArg)
	refused(t, s, "a name in use", func() (int, api.Errno) { return s.Clip("a", "other") }, api.ErrExists)
}

// P4.1: there are at most MaxClips clips.
func TestTooManyClips(t *testing.T) {
	s := stock.New()
	for i := range api.MaxClips {
		no, e := s.Clip(fmt.Sprint("c", i), "anna")
		same(t, i, no, e, i+1, api.OK)
	}
	refused(t, s, "one clip more", func() (int, api.Errno) { return s.Clip("d", "anna") }, api.ErrFull)
	refused(t, s, "a name in use", func() (int, api.Errno) { return s.Clip("c7", "anna") }, api.ErrExists)
	refused(t, s, "no name", func() (int, api.Errno) { return s.Clip("D", "anna") }, api.ErrArg)
}

// P4.1: Receive makes a free bale of the clip.
func TestReceive(t *testing.T) {
	s := filled(t)
	ok(t, second(s.Clip("n", "ben")))
	for i, grams := range []int{1, 700, api.MaxMass} {
		no, e := s.Receive(2, coarse, grams)
		same(t, grams, no, e, i+1, api.OK)
		equal(t, "bale", bale(t, s, no), api.Bale{No: i + 1, Kind: coarse, Grams: grams, Parts: []api.Part{{Clip: 2, Grams: grams}}})
	}
	equal(t, "totals", totals(t, s, 2), api.Totals{In: 701 + api.MaxMass, Live: 701 + api.MaxMass})
	equal(t, "totals", totals(t, s, 1), api.Totals{})
	for _, n := range hostile {
		if n != 1 && n != 2 {
			refused(t, s, n, func() (int, api.Errno) { return s.Receive(n, fine, 0) }, api.ErrNone)
		}
		if n < 1 || n > api.MaxMass {
			refused(t, s, n, func() (int, api.Errno) { return s.Receive(1, fine, n) }, api.ErrArg)
		}
	}
}

// P4.1: a kind is any four bytes.
func TestAnyKind(t *testing.T) {
	s := filled(t)
	for i, kind := range []api.Kind{{}, {0, 0, 0, 1}, {255, 255, 255, 255}, {' ', '\n', 'A', 0}} {
		no, e := s.Receive(1, kind, 5)
		same(t, kind, no, e, i+1, api.OK)
		equal(t, "kind", bale(t, s, no).Kind, kind)
	}
	fails(t, "kinds that differ in the last byte", second(s.Merge([]int{1, 2})), api.ErrKind)
}

// second is the error alone.
func second(_ int, e api.Errno) api.Errno { return e }

// P4.1 and P4.2: at most MaxBales bales are made, and that is the last error.
func TestTooManyBales(t *testing.T) {
	s := filled(t, api.MaxMass, api.MaxMass, 10, 20)
	ok(t, s.Waste(3), s.Hold(4))
	for range api.MaxBales - 4 {
		ok(t, second(s.Receive(1, fine, 3)))
	}
	for _, c := range []struct {
		m    api.Move
		want api.Errno
	}{
		{api.Move{What: api.MoveReceive, No: 1, Grams: 1}, api.ErrFull},
		{api.Move{What: api.MoveReceive, No: 1}, api.ErrArg},
		{api.Move{What: api.MoveReceive, No: 2, Grams: 1}, api.ErrNone},
		{api.Move{What: api.MoveSplit, No: 5, Grams: 2}, api.ErrFull},
		{api.Move{What: api.MoveSplit, No: 5, Grams: 3}, api.ErrMass},
		{api.Move{What: api.MoveSplit, No: 4, Grams: 2}, api.ErrState},
		{api.Move{What: api.MoveMerge, Nos: []int{6, 5}}, api.ErrFull},
		{api.Move{What: api.MoveMerge, Nos: []int{1, 2}}, api.ErrRange},
		{api.Move{What: api.MoveMerge, Nos: []int{5, 5}}, api.ErrArg},
	} {
		same(t, c.m, 0, second(s.Do(c.m)), 0, c.want)
	}
	equal(t, "bales", len(now(t, s).Bales()), api.MaxBales)
	equal(t, "not merged", bale(t, s, 5).State, api.BaleFree)
	equal(t, "not split", bale(t, s, 5).Grams, 3)
	ok(t, s.Core(5, 2), s.Lot("l", []int{512, 5}))
	ok(t, s.Undo(), s.Undo(), s.Undo())
	no, e := s.Split(1, 5)
	same(t, "the last number again", no, e, api.MaxBales, api.OK)
}

// P4.2 to P4.4 and the examples of the chapter.
func TestExamples(t *testing.T) {
	s := filled(t, 700)
	ok(t, second(s.Clip("n", "ben")))
	receive(t, s, 2, fine, 300)
	no, e := s.Merge([]int{1, 2})
	same(t, "merge", no, e, 3, api.OK)
	equal(t, "merged", bale(t, s, 3), api.Bale{No: 3, Kind: fine, Grams: 1000, Parts: []api.Part{{Clip: 1, Grams: 700}, {Clip: 2, Grams: 300}}, From: []int{1, 2}})
	equal(t, "gone", bale(t, s, 1), api.Bale{No: 1, Kind: fine, Grams: 700, Parts: []api.Part{{Clip: 1, Grams: 700}}, State: api.BaleGone})
	no, e = s.Split(3, 101)
	same(t, "split", no, e, 4, api.OK)
	equal(t, "new", bale(t, s, 4), api.Bale{No: 4, Kind: fine, Grams: 101, Parts: []api.Part{{Clip: 1, Grams: 71}, {Clip: 2, Grams: 30}}, From: []int{3}})
	equal(t, "left", bale(t, s, 3), api.Bale{No: 3, Kind: fine, Grams: 899, Parts: []api.Part{{Clip: 1, Grams: 629}, {Clip: 2, Grams: 270}}, From: []int{1, 2}})
	ok(t, s.Weigh(4, 100))
	equal(t, "weighed", bale(t, s, 4).Parts, []api.Part{{Clip: 1, Grams: 70}, {Clip: 2, Grams: 30}})
	equal(t, "air", totals(t, s, 1).Air, -1)
	ok(t, s.Lot("l", []int{4}), s.Send("l"))
	equal(t, "sent", bale(t, s, 4), api.Bale{No: 4, Kind: fine, Grams: 100, Parts: []api.Part{{Clip: 1, Grams: 70}, {Clip: 2, Grams: 30}}, State: api.BaleGone, Lot: "l", From: []int{3}})
	equal(t, "totals", totals(t, s, 1), api.Totals{In: 700, Air: -1, Live: 629, Sent: 70})
	equal(t, "totals", totals(t, s, 2), api.Totals{In: 300, Live: 270, Sent: 30})
}

// P4.2: a part that comes to 0 is no part, neither of what is taken nor of
// what is left.
func TestSplitDropsEmptyParts(t *testing.T) {
	s := filled(t, 1)
	ok(t, second(s.Clip("n", "ben")), second(s.Clip("o", "carl")))
	receive(t, s, 2, fine, 1000)
	receive(t, s, 3, fine, 1)
	ok(t, second(s.Merge([]int{3, 1, 2})))
	no, e := s.Split(4, 500)
	same(t, "split", no, e, 5, api.OK)
	equal(t, "new", bale(t, s, 5).Parts, []api.Part{{Clip: 1, Grams: 1}, {Clip: 2, Grams: 499}})
	equal(t, "left", bale(t, s, 4).Parts, []api.Part{{Clip: 2, Grams: 501}, {Clip: 3, Grams: 1}})
	no, e = s.Split(5, 1)
	same(t, "split", no, e, 6, api.OK)
	equal(t, "new", bale(t, s, 6).Parts, []api.Part{{Clip: 2, Grams: 1}})
	equal(t, "left", bale(t, s, 5).Parts, []api.Part{{Clip: 1, Grams: 1}, {Clip: 2, Grams: 498}})
}

// P4.3: a part that comes to 0 is no longer a part; Core counts what was
// taken, Weigh what was lost to the air.
func TestCoreAndWeighDropEmptyParts(t *testing.T) {
	s := filled(t, 2)
	ok(t, second(s.Clip("n", "ben")))
	receive(t, s, 2, fine, 1000)
	ok(t, second(s.Merge([]int{1, 2})), s.Core(3, 700))
	equal(t, "cored", bale(t, s, 3).Parts, []api.Part{{Clip: 1, Grams: 1}, {Clip: 2, Grams: 301}})
	equal(t, "totals", totals(t, s, 1), api.Totals{In: 2, Live: 1, Cored: 1})
	ok(t, s.Weigh(3, 100))
	equal(t, "weighed", bale(t, s, 3), api.Bale{No: 3, Kind: fine, Grams: 100, Parts: []api.Part{{Clip: 2, Grams: 100}}, From: []int{1, 2}})
	equal(t, "totals", totals(t, s, 1), api.Totals{In: 2, Air: -1, Cored: 1})
	equal(t, "totals", totals(t, s, 2), api.Totals{In: 1000, Air: -201, Live: 100, Cored: 699})
	ok(t, s.Weigh(3, api.MaxMass))
	equal(t, "totals", totals(t, s, 2), api.Totals{In: 1000, Air: api.MaxMass - 301, Live: api.MaxMass, Cored: 699})
	ok(t, s.Core(3, api.MaxMass-1), s.Weigh(3, 1), s.Weigh(3, 2))
	equal(t, "totals", totals(t, s, 2), api.Totals{In: 1000, Air: api.MaxMass - 300, Live: 2, Cored: 698 + api.MaxMass})
}

// inEveryState is a store of the bales 1 free, 2 lotted in l, 3 held, 4
// wasted, 5 sent in k, 6 merged from 4 others, 7 to 9 the merged ones.
func inEveryState(t *testing.T) *stock.Store {
	t.Helper()
	s := filled(t, 100, 200, 300, 400, 500, 600, 700)
	ok(t, s.Lot("l", []int{2}), s.Hold(3), s.Waste(4), s.Lot("k", []int{5}), s.Send("k"), second(s.Merge([]int{6, 7})))
	return s
}

// P4.2 to P4.4: which states allow a change of one bale, and the order of its
// errors.
func TestStatesAllow(t *testing.T) {
	s := inEveryState(t)
	states := []int{api.BaleFree, api.BaleLotted, api.BaleHeld, api.BaleGone, api.BaleGone, api.BaleGone, api.BaleGone, api.BaleFree}
	for i, b := range now(t, s).Bales() {
		equal(t, "state", b.State, states[i])
	}
	allowed := map[int][]int{
		api.MoveSplit: {0}, api.MoveCore: {0, 1}, api.MoveWeigh: {0, 1},
		api.MoveHold: {0}, api.MoveRelease: {2}, api.MoveWaste: {0},
	}
	for what, from := range allowed {
		for i, state := range states {
			if slices.Contains(from, state) {
				c := s.Copy()
				ok(t, second(c.Do(api.Move{What: what, No: i + 1, Grams: 10})))
				continue
			}
			refused(t, s, what, do(s, api.Move{What: what, No: i + 1}), api.ErrState)
		}
		for _, n := range hostile {
			if n < 1 || n > len(states) {
				refused(t, s, what, do(s, api.Move{What: what, No: n}), api.ErrNone)
			}
		}
	}
}

// P4.2 and P4.3: the masses that can be taken out of a bale or given to it.
func TestMasses(t *testing.T) {
	s := inEveryState(t)
	for _, what := range []int{api.MoveSplit, api.MoveCore, api.MoveWeigh} {
		for _, n := range append(hostile, 99, 100, 101) {
			want := api.OK
			switch {
			case n < 1 || what == api.MoveWeigh && n > api.MaxMass:
				want = api.ErrArg
			case n >= 100 && what != api.MoveWeigh:
				want = api.ErrMass
			}
			m := api.Move{What: what, No: 1, Grams: n}
			if want != api.OK {
				refused(t, s, m, do(s, m), want)
				continue
			}
			no, e := s.Do(m)
			if what != api.MoveSplit {
				same(t, m, no, e, 0, api.OK)
			} else {
				same(t, m, no, e, 9, api.OK)
			}
			ok(t, s.Undo())
		}
	}
}

// P4.4: Hold, Release and Waste; what is wasted is counted.
func TestHoldReleaseWaste(t *testing.T) {
	s := filled(t, 100, 200)
	ok(t, s.Hold(1))
	equal(t, "held", bale(t, s, 1), api.Bale{No: 1, Kind: fine, Grams: 100, Parts: []api.Part{{Clip: 1, Grams: 100}}, State: api.BaleHeld})
	ok(t, s.Release(1))
	equal(t, "free", bale(t, s, 1).State, api.BaleFree)
	ok(t, s.Waste(1))
	equal(t, "wasted", bale(t, s, 1), api.Bale{No: 1, Kind: fine, Grams: 100, Parts: []api.Part{{Clip: 1, Grams: 100}}, State: api.BaleGone})
	equal(t, "totals", totals(t, s, 1), api.Totals{In: 300, Live: 200, Wasted: 100})
}

// P4.2 and P4.4: the errors of lists of bales, in their order.
func TestLists(t *testing.T) {
	s := inEveryState(t)
	receive(t, s, 1, coarse, 10)
	receive(t, s, 1, fine, api.MaxMass, api.MaxMass-100, api.MaxMass-99)
	long := make([]int, 17)
	for _, c := range []struct {
		nos        []int
		merge, lot api.Errno
	}{
		{nil, api.ErrArg, api.ErrArg},
		{[]int{}, api.ErrArg, api.ErrArg},
		{[]int{1}, api.ErrArg, api.OK},
		{[]int{0}, api.ErrArg, api.ErrNone},
		{[]int{3}, api.ErrArg, api.ErrState},
		{long, api.ErrLimit, api.ErrLimit},
		{make([]int, 16), api.ErrNone, api.ErrNone},
		{make([]int, 5000), api.ErrLimit, api.ErrLimit},
		{[]int{1, 8}, api.OK, api.OK},
		{[]int{8, 1}, api.OK, api.OK},
		{[]int{1, 0, 3}, api.ErrNone, api.ErrNone},
		{[]int{1, -1}, api.ErrNone, api.ErrNone},
		{[]int{1, 13}, api.ErrNone, api.ErrNone},
		{[]int{1, 3, 0}, api.ErrState, api.ErrState},
		{[]int{1, 1, 0}, api.ErrArg, api.ErrArg},
		{[]int{1, 1, 3}, api.ErrArg, api.ErrArg},
		{[]int{1, 8, 1}, api.ErrArg, api.ErrArg},
		{[]int{3, 3}, api.ErrState, api.ErrState},
		{[]int{1, 2}, api.ErrState, api.ErrState},
		{[]int{4, 1}, api.ErrState, api.ErrState},
		{[]int{1, 9, 9}, api.ErrArg, api.ErrArg},
		{[]int{1, 9}, api.ErrKind, api.ErrKind},
		{[]int{9, 10, 11}, api.ErrKind, api.ErrKind},
		{[]int{1, 10}, api.ErrRange, api.OK},
		{[]int{1, 11}, api.OK, api.OK},
		{[]int{1, 12}, api.ErrRange, api.OK},
		{[]int{11, 10, 12}, api.ErrRange, api.OK},
	} {
		for what, want := range map[int]api.Errno{api.MoveMerge: c.merge, api.MoveLot: c.lot} {
			m := api.Move{What: what, Nos: c.nos, Name: "n"}
			if want == api.OK {
				ok(t, second(s.Do(m)), s.Undo())
			} else {
				refused(t, s, m, do(s, m), want)
			}
		}
	}
	equal(t, "long", long, make([]int, 17))
}

// P4.2 and P4.4: a list may have sixteen numbers, in any order, which is kept
// in the caller's list; a record has them ascending.
func TestSixteen(t *testing.T) {
	s := filled(t, 1, 2, 3, 4, 5, 6, 7, 8, 9, 10, 11, 12, 13, 14, 15, 16)
	nos := []int{3, 1, 2, 16, 15, 14, 4, 5, 6, 7, 13, 12, 11, 10, 9, 8}
	passed, up := slices.Clone(nos), slices.Sorted(slices.Values(nos))
	ok(t, s.Lot("l", nos))
	equal(t, "passed", nos, passed)
	lot, e := now(t, s).Lot("l")
	equal(t, "lot", []any{lot, e}, []any{api.Lot{Name: "l", Bales: up}, api.OK})
	for i, b := range now(t, s).Bales() {
		equal(t, "lotted", []any{b.State, b.Lot, b.Grams}, []any{api.BaleLotted, "l", i + 1})
	}
	ok(t, s.Unlot("l"))
	no, e := s.Merge(nos)
	same(t, "merge", no, e, 17, api.OK)
	equal(t, "passed", nos, passed)
	equal(t, "merged", bale(t, s, 17), api.Bale{No: 17, Kind: fine, Grams: 136, Parts: []api.Part{{Clip: 1, Grams: 136}}, From: up})
}

// P4.4: the errors of the names of lots, in their order.
func TestLotNames(t *testing.T) {
	s := inEveryState(t)
	for _, name := range notNames {
		refused(t, s, name, do(s, api.Move{What: api.MoveLot, Name: name, Nos: make([]int, 17)}), api.ErrArg)
		refused(t, s, name, do(s, api.Move{What: api.MoveUnlot, Name: name}), api.ErrNone)
		refused(t, s, name, do(s, api.Move{What: api.MoveSend, Name: name}), api.ErrNone)
	}
	for _, name := range []string{"l", "k"} {
		refused(t, s, name, do(s, api.Move{What: api.MoveLot, Name: name, Nos: make([]int, 17)}), api.ErrExists)
		refused(t, s, name, do(s, api.Move{What: api.MoveLot, Name: name, Nos: []int{1}}), api.ErrExists)
	}
	for _, name := range names {
		ok(t, s.Lot(name, []int{1}), s.Unlot(name))
		refused(t, s, name, do(s, api.Move{What: api.MoveSend, Name: name}), api.ErrNone)
		refused(t, s, name, do(s, api.Move{What: api.MoveUnlot, Name: name}), api.ErrNone)
	}
	refused(t, s, "sent", do(s, api.Move{What: api.MoveSend, Name: "k"}), api.ErrState)
	refused(t, s, "sent", do(s, api.Move{What: api.MoveUnlot, Name: "k"}), api.ErrState)
}

// P4.4: an unlotted lot's bales are free, and its name can be used again; a
// sent one's are gone and keep its name.
func TestUnlotAndSend(t *testing.T) {
	s := filled(t, 100, 200, 300)
	ok(t, s.Lot("l", []int{3, 1}), s.Core(3, 50), s.Weigh(1, 110), s.Unlot("l"))
	for _, b := range now(t, s).Bales() {
		equal(t, "unlotted", []any{b.State, b.Lot}, []any{api.BaleFree, ""})
	}
	equal(t, "lots", now(t, s).Lots(), []api.Lot{})
	ok(t, s.Lot("l", []int{2, 3}), s.Send("l"))
	lot, e := now(t, s).Lot("l")
	equal(t, "lot", []any{lot, e}, []any{api.Lot{Name: "l", Bales: []int{2, 3}, Sent: true}, api.OK})
	for _, b := range now(t, s).Bales()[1:] {
		equal(t, "sent", []any{b.State, b.Lot}, []any{api.BaleGone, "l"})
	}
	equal(t, "totals", totals(t, s, 1), api.Totals{In: 600, Air: 10, Live: 110, Cored: 50, Sent: 450})
}

// P4.4: there are at most MaxLots lots, sent ones too, and that is the last
// error.
func TestTooManyLots(t *testing.T) {
	s := filled(t, slices.Repeat([]int{5}, api.MaxLots+2)...)
	receive(t, s, 1, coarse, 1)
	for i := range api.MaxLots {
		ok(t, s.Lot(fmt.Sprint("l", i), []int{i + 1}))
	}
	ok(t, s.Send("l7"), s.Hold(65))
	for _, c := range []struct {
		name string
		nos  []int
		want api.Errno
	}{
		{"m", []int{66}, api.ErrFull},
		{"l0", []int{66}, api.ErrExists},
		{"m", []int{65}, api.ErrState},
		{"m", []int{66, 67}, api.ErrKind},
		{"m", nil, api.ErrArg},
	} {
		refused(t, s, c, do(s, api.Move{What: api.MoveLot, Name: c.name, Nos: c.nos}), c.want)
	}
	ok(t, s.Unlot("l8"), s.Lot("m", []int{66}))
}

// P4.1 and P4.3: totals of the largest masses are exact.
func TestLargestMasses(t *testing.T) {
	s := stock.New()
	for i := range api.MaxClips {
		ok(t, second(s.Clip(fmt.Sprint("c", i), "anna")))
	}
	receive(t, s, 64, fine, slices.Repeat([]int{api.MaxMass}, 400)...)
	for range 500 {
		ok(t, s.Core(7, api.MaxMass-1), s.Weigh(7, api.MaxMass))
	}
	ok(t, s.Waste(1), s.Lot("l", []int{2, 3}), s.Send("l"))
	equal(t, "totals", totals(t, s, 64), api.Totals{
		In: 400 << 30, Air: 500 * (1<<30 - 1), Live: 397 << 30, Cored: 500 * (1<<30 - 1), Wasted: 1 << 30, Sent: 2 << 30,
	})
	balanced(t, now(t, s))
}

// P4.2: a merged bale has the sums of its bales, clip by clip, for all clips.
func TestMergeOfAllClips(t *testing.T) {
	s := stock.New()
	var want []api.Part
	for i := range api.MaxClips {
		ok(t, second(s.Clip(fmt.Sprint("c", i), "anna")), second(s.Receive(i+1, fine, i+1)))
		want = append(want, api.Part{Clip: i + 1, Grams: i + 1})
	}
	all := now(t, s).Bales()
	var heaps []int
	for len(all) > 0 {
		var nos []int
		for _, b := range all[:16] {
			nos = append(nos, b.No)
		}
		slices.Reverse(nos)
		no, e := s.Merge(nos)
		ok(t, e)
		heaps, all = append(heaps, no), all[16:]
	}
	slices.Reverse(heaps)
	no, e := s.Merge(heaps)
	same(t, "merge", no, e, 69, api.OK)
	equal(t, "parts", bale(t, s, no).Parts, want)
	ok(t, s.Core(no, 2079))
	equal(t, "what is left", bale(t, s, no), api.Bale{No: no, Kind: fine, Grams: 1, Parts: []api.Part{{Clip: 64, Grams: 1}}, From: slices.Sorted(slices.Values(heaps))})
}
