package tree_test

import (
	"math"
	"slices"
	"testing"

	"merino/api"
	"merino/tree"
)

// odd are the pairs of the chapter's examples.
var odd = []pair{{1, "a"}, {3, "c"}, {5, "e"}}

// P2.1, P2.2 and the first example
func TestExample(t *testing.T) {
	m := of(t, odd)
	check(t, m, odd, near(odd))
	if k, v, ok := m.At(1); k != 3 || v != "c" || !ok {
		t.Error("At", k, v, ok)
	}
	if m.Rank(4) != 2 || m.Rank(3) != 1 {
		t.Error("Rank", m.Rank(4), m.Rank(3))
	}
	if k, v, ok := m.Floor(4); k != 3 || v != "c" || !ok {
		t.Error("Floor", k, v, ok)
	}
	if k, v, ok := m.Ceil(6); k != 0 || v != "" || ok {
		t.Error("Ceil", k, v, ok)
	}
}

// P2.1 and P2.2: the zero Map is empty, like the map of no pairs.
func TestEmpty(t *testing.T) {
	var zero ints
	gone, _ := zero.Put(1, "a").Delete(1)
	for _, m := range []ints{zero, of[int, string](t, nil), of(t, []pair{}), gone} {
		check(t, m, nil, near(nil))
		if m.Depth() != 0 {
			t.Error(m.Depth())
		}
		if same, ok := m.Delete(0); ok || same.Len() != 0 {
			t.Error(same.Pairs(), ok)
		}
		check(t, m.Put(0, ""), []pair{{0, ""}}, near(nil))
	}
}

// P2.1
func TestOf(t *testing.T) {
	for n := range 200 {
		var list []pair
		for i := range n {
			list = append(list, entry(3*i-n, "v"))
		}
		check(t, of(t, list), list, near(list))
	}
	ends := []pair{{math.MinInt, "low"}, {-1, "a"}, {0, "b"}, {math.MaxInt, "high"}}
	check(t, of(t, ends), ends, near(ends[1:3]))
}

// P2.1: keys that do not ascend strictly, at every place of the list.
func TestOfErrors(t *testing.T) {
	for n := 2; n <= 20; n++ {
		for i := 1; i < n; i++ {
			for _, lower := range []int{0, 1, n} {
				var list []pair
				for k := range n {
					list = append(list, entry(k, "v"))
				}
				list[i].Key = i - 1 - lower
				if m, e := tree.Of(list); e != api.ErrArg || m != (ints{}) {
					t.Error(list, m.Pairs(), e)
				}
			}
		}
	}
	for _, list := range [][]pair{
		{{0, "a"}, {0, "a"}},
		{{math.MaxInt, "a"}, {math.MinInt, "b"}},
		{{1, "a"}, {2, "b"}, {2, "c"}, {3, "d"}},
		{{3, "a"}, {2, "b"}, {1, "c"}},
	} {
		if m, e := tree.Of(list); e != api.ErrArg || m != (ints{}) {
			t.Error(list, m.Pairs(), e)
		}
	}
}

// P2.1 and P2.8: the list that was passed to Of and the lists that Pairs
// returned are nothing to the map.
func TestListsAreApart(t *testing.T) {
	list := slices.Clone(odd)
	m := of(t, list)
	first, second := m.Pairs(), m.Pairs()
	list[0], list[1] = pair{9, "x"}, pair{8, "y"}
	first[0], first[2] = pair{7, "z"}, pair{6, "w"}
	_ = append(first[:1], pair{5, "v"})
	if !slices.Equal(second, odd) {
		t.Error(second)
	}
	check(t, m, odd, near(odd))
}

// P2.1: every order of putting in and of taking out five keys.
func TestEveryOrder(t *testing.T) {
	var list []pair
	for k := range 5 {
		list = append(list, entry(2*k, "v"))
	}
	var orders [][]pair
	var swap func(done int, order []pair)
	swap = func(done int, order []pair) {
		if done == len(order) {
			orders = append(orders, slices.Clone(order))
			return
		}
		for i := done; i < len(order); i++ {
			order[done], order[i] = order[i], order[done]
			swap(done+1, order)
			order[done], order[i] = order[i], order[done]
		}
	}
	swap(0, slices.Clone(list))
	for _, in := range orders {
		full := put(in)
		check(t, full, list, near(list))
		for _, out := range orders {
			m, rest := full, list
			for _, p := range out {
				var ok bool
				m, ok = m.Delete(p.Key)
				rest = only(rest, func(k int) bool { return k != p.Key })
				if !ok || !slices.Equal(m.Pairs(), rest) {
					t.Fatal(in, out, p, ok, m.Pairs())
				}
			}
		}
	}
}

// P2.1: puts and deletes in any order answer what the language's map answers.
func TestPutAndDelete(t *testing.T) {
	for seed := range uint64(40) {
		d := dice(seed)
		span := 1 + d.IntN(120)
		held := map[int]string{}
		var m ints
		for step := range 400 {
			e := entry(d.IntN(span), string(rune('a'+step%26)))
			if d.IntN(5) < 3 {
				m = m.Put(e.Key, e.Value)
				held[e.Key] = e.Value
			} else {
				_, want := held[e.Key]
				before := m
				var ok bool
				m, ok = m.Delete(e.Key)
				if ok != want || !ok && m != before {
					t.Fatal(e, ok, want)
				}
				delete(held, e.Key)
			}
			samePairs(t, step, m, listOf(held))
		}
		list := listOf(held)
		check(t, m, list, near(list))
	}
}

// P2.1: the value of a key is replaced, and nothing else.
func TestReplace(t *testing.T) {
	list := []pair{}
	for k := range 50 {
		list = append(list, entry(k, "v"))
	}
	m := of(t, list)
	for i, p := range list {
		want := slices.Clone(list)
		want[i].Value = "new"
		samePairs(t, p, m.Put(p.Key, "new"), want)
		samePairs(t, p, m.Put(p.Key, p.Value), list)
	}
}

// P2.1: a key that is not there, on every side of the others, is not deleted.
func TestDeleteMissing(t *testing.T) {
	for n := range 40 {
		var list []pair
		for k := range n {
			list = append(list, entry(2*k, "v"))
		}
		m := of(t, list)
		for k := -1; k <= 2*n+1; k += 2 {
			if same, ok := m.Delete(k); ok || same != m {
				t.Error(n, k, same.Pairs(), ok)
			}
		}
		for _, k := range []int{math.MinInt, math.MaxInt} {
			if same, ok := m.Delete(k); ok || same != m {
				t.Error(n, k, same.Pairs(), ok)
			}
		}
	}
}

// name and day are keys of types of their own.
type (
	name string
	day  int
)

// Types: strings are ordered by bytes, and a key may have a type of its own.
func TestKeys(t *testing.T) {
	keys := []name{"", "\x00", "\x00\x00", "-", "0", "10", "9", "A", "Z", "a", "a\x00", "aa", "ab", "b", "z", "\u00e9", "\u20ac", "\U0001f411", "\xff", "\xff\xff"}
	var list []tree.Pair[name, int]
	for i, k := range keys {
		list = append(list, tree.Pair[name, int]{Key: k, Value: i})
	}
	probes := append(slices.Clone(keys), "1", "aaa", "c", "\xfe", "\u00e8", "\xff\xff\xff")
	check(t, of(t, list), list, probes)
	reverse := slices.Clone(list)
	slices.Reverse(reverse)
	check(t, put(reverse), list, probes)
	if m, e := tree.Of(reverse); e != api.ErrArg || m.Len() != 0 {
		t.Error(m.Pairs(), e)
	}
	days := []tree.Pair[day, float64]{{math.MinInt, 1}, {-5, 2}, {0, 0}, {7, 3}, {math.MaxInt, 4}}
	check(t, of(t, days), days, []day{math.MinInt, -6, -5, -4, 0, 7, 8, math.MaxInt})
}

// Types: a slice in a value is shared with whoever passed it.
func TestValuesAreShared(t *testing.T) {
	bales := []int{1, 2}
	var m tree.Map[string, []int]
	m = m.Put("lot", bales)
	bales[0] = 9
	if got, ok := m.Get("lot"); !ok || got[0] != 9 {
		t.Error(got, ok)
	}
}
