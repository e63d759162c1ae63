package tree_test

import (
	"cmp"
	"math"
	"math/bits"
	"math/rand/v2"
	"slices"
	"strconv"
	"testing"

	"merino/api"
	"merino/tree"
)

// ints and pairs are the map and the list that most tests are made with.
type (
	ints = tree.Map[int, string]
	pair = tree.Pair[int, string]
)

// dice gives the same numbers in every run.
func dice(seed uint64) *rand.Rand { return rand.New(rand.NewPCG(seed, 2)) }

// entry is a pair whose value tells where it is from.
func entry(k int, from string) pair { return pair{Key: k, Value: from + strconv.Itoa(k)} }

// some gives a list of up to most pairs with keys from 0 to 2*most.
func some(d *rand.Rand, most int, from string) []pair {
	held := map[int]string{}
	for range d.IntN(most + 1) {
		e := entry(d.IntN(2*most+1), from)
		held[e.Key] = e.Value
	}
	return listOf(held)
}

// listOf is the pairs of a map of the language, sorted by their keys.
func listOf[K tree.Key, V any](held map[K]V) []tree.Pair[K, V] {
	var list []tree.Pair[K, V]
	for k, v := range held {
		list = append(list, tree.Pair[K, V]{Key: k, Value: v})
	}
	slices.SortFunc(list, func(x, y tree.Pair[K, V]) int { return cmp.Compare(x.Key, y.Key) })
	return list
}

// goMap is the map of the language with these pairs.
func goMap[K tree.Key, V any](list []tree.Pair[K, V]) map[K]V {
	held := map[K]V{}
	for _, p := range list {
		held[p.Key] = p.Value
	}
	return held
}

// of is Of where it must succeed.
func of[K tree.Key, V any](t *testing.T, list []tree.Pair[K, V]) tree.Map[K, V] {
	t.Helper()
	m, e := tree.Of(list)
	if e != api.OK {
		t.Fatal(list, e)
	}
	return m
}

// put is the map with these pairs, put in one by one in their order.
func put[K tree.Key, V any](list []tree.Pair[K, V]) tree.Map[K, V] {
	var m tree.Map[K, V]
	for _, p := range list {
		m = m.Put(p.Key, p.Value)
	}
	return m
}

// near are the keys of the list, those beside them, and the extreme ones.
func near(list []pair) []int {
	keys := []int{math.MinInt, math.MinInt + 1, -1, 0, 1, math.MaxInt - 1, math.MaxInt}
	for _, p := range list {
		keys = append(keys, p.Key-1, p.Key, p.Key+1)
	}
	slices.Sort(keys)
	return slices.Compact(keys)
}

// maxDepth is the depth that P2.7 allows for n keys.
func maxDepth(n int) int { return 3 * bits.Len(uint(n)) }

// only returns the pairs of the list whose keys are kept, in their order.
func only[K tree.Key, V any](list []tree.Pair[K, V], keep func(K) bool) []tree.Pair[K, V] {
	var kept []tree.Pair[K, V]
	for _, p := range list {
		if keep(p.Key) {
			kept = append(kept, p)
		}
	}
	return kept
}

// check fails the test unless every function that looks at m answers, for all
// probes, what the list says by the words of the chapter.
func check[K tree.Key, V comparable](t *testing.T, m tree.Map[K, V], list []tree.Pair[K, V], probes []K) {
	t.Helper()
	if m.Len() != len(list) || !slices.Equal(m.Pairs(), list) {
		t.Fatalf("%d pairs: %v; want %v", m.Len(), m.Pairs(), list)
	}
	depth := m.Depth()
	if depth > maxDepth(len(list)) || depth < bits.Len(uint(len(list))) {
		t.Fatalf("%d keys: depth %d", len(list), depth)
	}
	checkAt(t, m, list)
	for _, k := range probes {
		checkKey(t, m, list, k)
	}
}

// checkAt fails the test unless At answers what the list says.
func checkAt[K tree.Key, V comparable](t *testing.T, m tree.Map[K, V], list []tree.Pair[K, V]) {
	t.Helper()
	var none tree.Pair[K, V]
	for i, p := range list {
		if k, v, ok := m.At(i); k != p.Key || v != p.Value || !ok {
			t.Fatal("At", i, k, v, ok, p)
		}
	}
	n := len(list)
	for _, i := range []int{math.MinInt, math.MinInt + 1, -n - 1, -n, -2, -1, n, n + 1, 2*n + 1, math.MaxInt - 1, math.MaxInt} {
		if k, v, ok := m.At(i); (i < 0 || i >= n) && (k != none.Key || v != none.Value || ok) {
			t.Fatal("At", i, k, v, ok)
		}
	}
}

// checkKey fails the test unless Get, Rank, Floor and Ceil answer for k what
// the list says.
func checkKey[K tree.Key, V comparable](t *testing.T, m tree.Map[K, V], list []tree.Pair[K, V], k K) {
	t.Helper()
	var same, floor, ceil tree.Pair[K, V]
	var isSame, isFloor, isCeil bool
	rank := 0
	for _, p := range list {
		if p.Key < k {
			rank++
		}
		if p.Key == k {
			same, isSame = p, true
		}
		if p.Key <= k {
			floor, isFloor = p, true
		}
		if p.Key >= k && !isCeil {
			ceil, isCeil = p, true
		}
	}
	if v, ok := m.Get(k); v != same.Value || ok != isSame {
		t.Fatal("Get", k, v, ok, same)
	}
	if got := m.Rank(k); got != rank {
		t.Fatal("Rank", k, got, rank)
	}
	if key, v, ok := m.Floor(k); key != floor.Key || v != floor.Value || ok != isFloor {
		t.Fatal("Floor", k, key, v, ok, floor)
	}
	if key, v, ok := m.Ceil(k); key != ceil.Key || v != ceil.Value || ok != isCeil {
		t.Fatal("Ceil", k, key, v, ok, ceil)
	}
}

// samePairs fails the test unless m has the pairs of the list, at a depth that
// is allowed.
func samePairs[K tree.Key, V comparable](t *testing.T, what any, m tree.Map[K, V], list []tree.Pair[K, V]) {
	t.Helper()
	if m.Len() != len(list) || !slices.Equal(m.Pairs(), list) || m.Depth() > maxDepth(len(list)) {
		t.Fatalf("%v: depth %d, %d pairs: %v; want %v", what, m.Depth(), m.Len(), m.Pairs(), list)
	}
}
