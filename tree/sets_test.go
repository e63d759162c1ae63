package tree_test

import (
	"math"
	"slices"
	"testing"

	"merino/tree"
)

// union, intersection and difference are the sets of the chapter, as lists.
func union(a, b []pair) []pair {
	held := goMap(a)
	for _, p := range b {
		held[p.Key] = p.Value
	}
	return listOf(held)
}

func intersection(a, b []pair) []pair {
	held := goMap(a)
	return only(b, func(k int) bool {
		_, found := held[k]
		return found
	})
}

func difference(a, b []pair) []pair {
	held := goMap(b)
	return only(a, func(k int) bool {
		_, found := held[k]
		return !found
	})
}

// changes is Diff by the words of the chapter.
func changes(a, b []pair) []tree.Change[int, string] {
	old, new := goMap(a), goMap(b)
	var list []tree.Change[int, string]
	for _, p := range union(a, b) {
		c := tree.Change[int, string]{Key: p.Key}
		c.Old, c.Had = old[p.Key]
		c.New, c.Has = new[p.Key]
		if c.Had != c.Has || c.Old != c.New {
			list = append(list, c)
		}
	}
	return list
}

// patched is a with the changes carried out on it.
func patched(a ints, list []tree.Change[int, string]) ints {
	for _, c := range list {
		if c.Has {
			a = a.Put(c.Key, c.New)
		} else {
			a, _ = a.Delete(c.Key)
		}
	}
	return a
}

// compared fails the test unless the sets and the Diff of the maps of two lists
// are what the lists say, and the laws hold.
func compared(t *testing.T, a, b ints, listA, listB []pair) {
	t.Helper()
	what := [][]pair{listA, listB}
	both, common, rest := tree.Union(a, b), tree.Intersect(a, b), tree.Subtract(a, b)
	samePairs(t, what, both, union(listA, listB))
	samePairs(t, what, common, intersection(listA, listB))
	samePairs(t, what, rest, difference(listA, listB))
	samePairs(t, what, tree.Union(rest, b), both.Pairs())
	if both.Len()+common.Len() != a.Len()+b.Len() || rest.Len() != a.Len()-common.Len() {
		t.Fatal(what, both.Len(), common.Len(), rest.Len())
	}
	diff := tree.Diff(a, b)
	if !slices.Equal(diff, changes(listA, listB)) {
		t.Fatal(what, diff)
	}
	samePairs(t, what, patched(a, diff), listB)
}

// P2.5, P2.6, P2.9 and P2.10: all pairs of maps over five keys, where a key is
// in neither, in one, or in both with the same or another value.
func TestAllSmallSets(t *testing.T) {
	for code := range 5 * 5 * 5 * 5 * 5 {
		var a, b []pair
		for k, rest := 0, code; k < 5; k, rest = k+1, rest/5 {
			if rest%5 != 0 && rest%5 != 2 {
				a = append(a, entry(k, "a"))
			}
			switch rest % 5 {
			case 2, 3:
				b = append(b, entry(k, "b"))
			case 4:
				b = append(b, entry(k, "a"))
			}
		}
		compared(t, of(t, a), of(t, b), a, b)
		compared(t, put(b), of(t, a), b, a)
	}
}

// P2.5, P2.6, P2.9 and P2.10: maps of all sizes, apart and with a common past.
func TestLargeSets(t *testing.T) {
	for seed := range uint64(200) {
		d := dice(seed)
		a, b := some(d, 1+d.IntN(200), "a"), some(d, 1+d.IntN(200), "b")
		compared(t, of(t, a), put(b), a, b)
		compared(t, of(t, a), of(t, a), a, a)
		later, held := of(t, a), goMap(a)
		for range d.IntN(30) {
			e := entry(d.IntN(400), "b")
			if d.IntN(2) == 0 {
				later, held[e.Key] = later.Put(e.Key, e.Value), e.Value
			} else {
				later, _ = later.Delete(e.Key)
				delete(held, e.Key)
			}
		}
		compared(t, of(t, a), later, a, listOf(held))
		compared(t, later, of(t, a), listOf(held), a)
	}
}

// P2.5, P2.6 and P2.9: with an empty map on a side, and with itself.
func TestSetsWithEmpty(t *testing.T) {
	m := of(t, odd)
	compared(t, m, ints{}, odd, nil)
	compared(t, ints{}, m, nil, odd)
	compared(t, ints{}, ints{}, nil, nil)
	compared(t, m, m, odd, odd)
	ends := []pair{{math.MinInt, "low"}, {math.MaxInt, "high"}}
	compared(t, m, of(t, ends), odd, ends)
	compared(t, of(t, ends), m, ends, odd)
}

// P2.6 and the third example
func TestDiffExample(t *testing.T) {
	m := of(t, odd)
	other := of(t, []pair{{1, "a"}, {3, "x"}, {7, "g"}})
	want := []tree.Change[int, string]{
		{Key: 3, Old: "c", New: "x", Had: true, Has: true},
		{Key: 5, Old: "e", Had: true},
		{Key: 7, New: "g", Has: true},
	}
	if got := tree.Diff(m, other); !slices.Equal(got, want) {
		t.Error(got)
	}
}

// P2.6: a zero value that is there differs from none.
func TestDiffOfZeroValues(t *testing.T) {
	zero := put([]pair{{0, ""}, {1, ""}})
	want := []tree.Change[int, string]{{Key: 0, Had: true}}
	if got := tree.Diff(zero, put([]pair{{1, ""}})); !slices.Equal(got, want) {
		t.Error(got)
	}
	want = []tree.Change[int, string]{{Key: 0, Has: true}, {Key: 1, Has: true}}
	if got := tree.Diff(ints{}, zero); !slices.Equal(got, want) {
		t.Error(got)
	}
	if got := tree.Diff(zero, zero); len(got) != 0 {
		t.Error(got)
	}
}

// P2.6: a value that is not equal to itself by == is a change, even in a map
// that is compared with itself.
func TestDiffOfNaN(t *testing.T) {
	var m tree.Map[string, float64]
	m = m.Put("a", 1).Put("b", math.NaN()).Put("c", math.Copysign(0, -1))
	for _, other := range []tree.Map[string, float64]{m, m.Put("c", 0)} {
		got := tree.Diff(m, other)
		if len(got) != 1 || got[0].Key != "b" || !got[0].Had || !got[0].Has || got[0].Old == got[0].Old || got[0].New == got[0].New {
			t.Error(got)
		}
	}
}

// P2.6 and P1 of the document: values of an interface type that == cannot
// compare are not equal, and nothing panics.
func TestDiffOfWhatCannotBeCompared(t *testing.T) {
	var m tree.Map[int, any]
	m = m.Put(1, "x").Put(2, []int{1}).Put(3, nil).Put(4, map[string]int{}).Put(5, [1]any{func() {}}).Put(6, 7)
	other := m.Put(1, 1).Put(3, error(nil)).Put(6, []int{7})
	var keys []int
	for _, c := range tree.Diff(m, other) {
		if !c.Had || !c.Has {
			t.Error(c)
		}
		keys = append(keys, c.Key)
	}
	if !slices.Equal(keys, []int{1, 2, 4, 5, 6}) {
		t.Error(keys)
	}
	if got := tree.Diff(m, m); len(got) != 3 {
		t.Error(got)
	}
}
