package stock_test

import (
	"slices"
	"testing"

	"merino/api"
	"merino/stock"
)

// P4.8: lists are in their orders, and what is not there is ErrNone.
func TestView(t *testing.T) {
	s := filled(t, 10, 20, 30, 40)
	ok(t, second(s.Clip("a", "carl")), s.Lot("z", []int{4}), s.Lot("b", []int{3, 1}), s.Lot("b-", []int{2}), s.Send("b"))
	v := now(t, s)
	equal(t, "clips", v.Clips(), []api.Clip{{No: 1, Name: "m", Owner: "anna"}, {No: 2, Name: "a", Owner: "carl"}})
	equal(t, "lots", v.Lots(), []api.Lot{{Name: "b", Bales: []int{1, 3}, Sent: true}, {Name: "b-", Bales: []int{2}}, {Name: "z", Bales: []int{4}}})
	for i, b := range v.Bales() {
		equal(t, "number", b.No, i+1)
		one, e := v.Bale(i + 1)
		equal(t, "bale", []any{one, e}, []any{b, api.OK})
	}
	equal(t, "bales", len(v.Bales()), 4)
	n, e := v.Totals(1)
	same(t, "totals", n, e, api.Totals{In: 100, Live: 60, Sent: 40}, api.OK)
	n, e = v.Totals(2)
	same(t, "totals", n, e, api.Totals{}, api.OK)
	for _, no := range append(hostile, 5) {
		if no >= 1 && no <= 4 {
			continue
		}
		b, e := v.Bale(no)
		equal(t, "no bale", []any{b, e}, []any{api.Bale{}, api.ErrNone})
		n, e := v.Totals(no)
		same(t, "no clip", n, e, api.Totals{}, api.ErrNone)
		sources, e := v.Sources(no)
		equal(t, "no bale", []any{sources, e}, []any{[]int{}, api.ErrNone})
		heirs, e := v.Heirs(no)
		equal(t, "no bale", []any{heirs, e}, []any{[]int{}, api.ErrNone})
	}
	n, e = v.Totals(3)
	same(t, "no clip", n, e, api.Totals{}, api.ErrNone)
	for _, name := range append(notNames, "a", "m", "b--", "zz") {
		l, e := v.Lot(name)
		equal(t, "no lot", []any{l, e}, []any{api.Lot{}, api.ErrNone})
	}
}

// P4.8: sources and heirs, directly and through others, in order.
func TestSourcesAndHeirs(t *testing.T) {
	s := filled(t, 100, 200, 300)
	ok(t, second(s.Split(2, 50)), second(s.Merge([]int{4, 1})), second(s.Split(5, 20)), second(s.Merge([]int{3, 5})), second(s.Split(6, 7)))
	receive(t, s, 1, fine, 5)
	ok(t, second(s.Merge([]int{9, 8, 6})), s.Waste(10))
	v := now(t, s)
	sources := [][]int{{}, {}, {}, {2}, {1, 2, 4}, {1, 2, 4, 5}, {1, 2, 3, 4, 5}, {1, 2, 4, 5, 6}, {}, {1, 2, 4, 5, 6, 8, 9}}
	for i, want := range sources {
		got, e := v.Sources(i + 1)
		equal(t, "sources", []any{i + 1, got, e}, []any{i + 1, want, api.OK})
		var heirs []int
		for j := range sources {
			if slices.Contains(sources[j], i+1) {
				heirs = append(heirs, j+1)
			}
		}
		got, e = v.Heirs(i + 1)
		equal(t, "heirs", []any{i + 1, got, e}, []any{i + 1, heirs, api.OK})
	}
	old, e := s.At(5)
	ok(t, e)
	got, e := old.Heirs(2)
	equal(t, "heirs in an old version", []any{got, e}, []any{[]int{4}, api.OK})
}

// P4.8 and P4.12: the longest descent, through all bales.
func TestLongDescent(t *testing.T) {
	s := filled(t, 1000000)
	for no := 1; no < api.MaxBales; no++ {
		ok(t, second(s.Split(no, 1000000-no)))
	}
	v := now(t, s)
	heirs, e := v.Heirs(1)
	ok(t, e)
	sources, e := v.Sources(api.MaxBales)
	ok(t, e)
	equal(t, "how many", []int{len(heirs), len(sources)}, []int{api.MaxBales - 1, api.MaxBales - 1})
	for i := range heirs {
		equal(t, "number", []int{sources[i], heirs[i]}, []int{i + 1, i + 2})
	}
}

// Rule 4 of the document: results are new memory, which the caller may change.
func TestResultsAreNewMemory(t *testing.T) {
	s := filled(t, 10, 20, 30)
	ok(t, second(s.Merge([]int{1, 2})), s.Lot("l", []int{3, 4}))
	before, v := album(t, s), now(t, s)
	spoil := func(b api.Bale) {
		for i := range b.Parts {
			b.Parts[i] = api.Part{Clip: 9, Grams: 9}
		}
		for i := range b.From {
			b.From[i] = 9
		}
		_, _ = append(b.Parts, api.Part{}), append(b.From, 9)
	}
	for _, b := range v.Bales() {
		spoil(b)
		one, _ := v.Bale(b.No)
		spoil(one)
		sources, _ := v.Sources(b.No)
		heirs, _ := v.Heirs(b.No)
		nos, _ := s.Compare(0, s.Version())
		for _, list := range [][]int{sources, heirs, nos} {
			for i := range list {
				list[i] = 9
			}
		}
	}
	for _, l := range v.Lots() {
		l.Bales[0] = 9
		one, _ := v.Lot(l.Name)
		one.Bales[0] = 9
	}
	v.Clips()[0].Name = "n"
	for _, m := range s.Moves() {
		for i := range m.Nos {
			m.Nos[i] = 9
		}
	}
	equal(t, "store", album(t, s), before)
	equal(t, "view", picture(v), picture(now(t, s)))
}

// P4.8: a view of an old version has its totals, not those of today.
func TestTotalsOfOldVersions(t *testing.T) {
	s := filled(t, 100)
	ok(t, s.Core(1, 10), s.Weigh(1, 95), s.Waste(1))
	for i, want := range []api.Totals{{}, {}, {In: 100, Live: 100}, {In: 100, Live: 90, Cored: 10}, {In: 100, Air: 5, Live: 95, Cored: 10}, {In: 100, Air: 5, Cored: 10, Wasted: 95}} {
		if i == 0 {
			continue
		}
		v, e := s.At(i)
		ok(t, e)
		n, e := v.Totals(1)
		same(t, i, n, e, want, api.OK)
	}
	var v *stock.View
	v, _ = s.At(0)
	n, e := v.Totals(1)
	same(t, 0, n, e, api.Totals{}, api.ErrNone)
}
