package tree_test

import (
	"math"
	"testing"

	"merino/api"
	"merino/tree"
)

// P2.4 and the second example
func TestCutExample(t *testing.T) {
	m := of(t, odd)
	less, v, ok, more := m.Split(3)
	samePairs(t, "less", less, odd[:1])
	samePairs(t, "more", more, odd[2:])
	if v != "c" || !ok {
		t.Error(v, ok)
	}
	samePairs(t, "Range", m.Range(3, 5), odd[1:2])
}

// splits fails the test unless Split of m at k answers what the list says, and
// its maps joined have the pairs of the list again.
func splits(t *testing.T, m ints, list []pair, k int) {
	t.Helper()
	less, v, ok, more := m.Split(k)
	samePairs(t, k, less, only(list, func(key int) bool { return key < k }))
	samePairs(t, k, more, only(list, func(key int) bool { return key > k }))
	if want, found := goMap(list)[k]; v != want || ok != found {
		t.Fatal(k, v, ok, want, found)
	}
	joined, e := tree.Join(less, more)
	if e != api.OK {
		t.Fatal(k, e)
	}
	samePairs(t, k, joined, only(list, func(key int) bool { return key != k }))
	if ok {
		joined = joined.Put(k, v)
	}
	samePairs(t, k, joined, list)
}

// P2.4, P2.7 and P2.9: Split, and Join of its maps.
func TestSplit(t *testing.T) {
	for n := range 70 {
		var list []pair
		for i := range n {
			list = append(list, entry(2*i, "v"))
		}
		for _, m := range []ints{of(t, list), put(list)} {
			for _, k := range near(list) {
				splits(t, m, list, k)
			}
		}
	}
	ends := []pair{{math.MinInt, "low"}, {0, "zero"}, {math.MaxInt, "high"}}
	for _, k := range []int{math.MinInt, math.MinInt + 1, -1, 0, 1, math.MaxInt - 1, math.MaxInt} {
		splits(t, of(t, ends), ends, k)
	}
}

// P2.4: a value that is there and is zero, and one that is not there.
func TestSplitZeroValue(t *testing.T) {
	m := of(t, []pair{{1, ""}, {2, "b"}})
	if _, v, ok, more := m.Split(1); v != "" || !ok || more.Len() != 1 {
		t.Error(v, ok, more.Pairs())
	}
	if less, v, ok, more := m.Split(0); v != "" || ok || less.Len() != 0 || more.Len() != 2 {
		t.Error(less.Pairs(), v, ok, more.Pairs())
	}
	samePairs(t, "Range", m.Range(1, 2), []pair{{1, ""}})
}

// P2.4 and P2.9: Range, and Join of neighbouring ranges.
func TestRange(t *testing.T) {
	for _, n := range []int{0, 1, 2, 3, 8, 17} {
		var list []pair
		for i := range n {
			list = append(list, entry(2*i, "v"))
		}
		m := of(t, list)
		keys := near(list)
		for _, from := range keys {
			for _, to := range keys {
				want := only(list, func(key int) bool { return from <= key && key < to })
				samePairs(t, []int{from, to}, m.Range(from, to), want)
				for _, k := range keys {
					if from > k || k > to {
						continue
					}
					joined, e := tree.Join(m.Range(from, k), m.Range(k, to))
					if e != api.OK {
						t.Fatal(from, k, to, e)
					}
					samePairs(t, []int{from, k, to}, joined, want)
				}
			}
		}
	}
	ends := []pair{{math.MinInt, "low"}, {0, "zero"}, {math.MaxInt, "high"}}
	m := of(t, ends)
	samePairs(t, "all below the last", m.Range(math.MinInt, math.MaxInt), ends[:2])
	samePairs(t, "none", m.Range(math.MaxInt, math.MaxInt), nil)
	samePairs(t, "none", m.Range(math.MaxInt, math.MinInt), nil)
}

// P2.4 and P2.7: Join of maps of all sizes, far apart and near each other.
func TestJoin(t *testing.T) {
	sizes := []int{0, 1, 2, 3, 4, 5, 7, 8, 12, 20, 33, 64, 100, 500}
	for _, n := range sizes {
		for _, n2 := range sizes {
			for _, gap := range []int{1, 2, 50} {
				var list []pair
				for i := range n {
					list = append(list, entry(i, "a"))
				}
				for i := range n2 {
					list = append(list, entry(n-1+gap+i, "b"))
				}
				m, e := tree.Join(put(list[:n]), of(t, list[n:]))
				if e != api.OK {
					t.Fatal(n, n2, e)
				}
				samePairs(t, []int{n, n2, gap}, m, list)
			}
		}
	}
}

// P2.4: the largest key of a is not less than the smallest of b.
func TestJoinErrors(t *testing.T) {
	one := func(k int) ints { return put([]pair{{k, "v"}}) }
	long := put([]pair{{1, "a"}, {2, "b"}, {3, "c"}, {4, "d"}, {5, "e"}, {6, "f"}, {7, "g"}})
	for _, c := range []struct{ a, b ints }{
		{one(0), one(0)},
		{one(1), one(0)},
		{one(math.MaxInt), one(math.MinInt)},
		{one(math.MinInt), one(math.MinInt)},
		{one(math.MaxInt), one(math.MaxInt)},
		{long, long},
		{long, one(7)},
		{long, one(6)},
		{long, one(4)},
		{long, one(1)},
		{long, one(0)},
		{one(1), long},
		{one(2), long},
		{one(7), long},
		{one(8), long},
	} {
		if m, e := tree.Join(c.a, c.b); e != api.ErrArg || m != (ints{}) {
			t.Error(c.a.Pairs(), c.b.Pairs(), m.Pairs(), e)
		}
	}
	for _, c := range []struct{ a, b ints }{{long, one(8)}, {one(0), long}, {one(-1), one(0)}, {long, ints{}}, {ints{}, long}, {ints{}, ints{}}, {one(math.MinInt), one(math.MaxInt)}} {
		m, e := tree.Join(c.a, c.b)
		if e != api.OK {
			t.Error(c.a.Pairs(), c.b.Pairs(), e)
		}
		samePairs(t, "joined", m, append(c.a.Pairs(), c.b.Pairs()...))
	}
}
