package tree_test

import (
	"iter"
	"slices"
	"testing"

	"merino/tree"
)

// taken is what an iteration yields when it is stopped after most pairs.
func taken(pairs iter.Seq2[int, string], most int) []pair {
	var list []pair
	for k, v := range pairs {
		list = append(list, pair{k, v})
		if len(list) == most {
			break
		}
	}
	return list
}

// iterates fails the test unless the iteration yields the list, whole or
// stopped anywhere, each time it is run, and calls nothing after it is stopped.
func iterates(t *testing.T, what any, pairs iter.Seq2[int, string], list []pair) {
	t.Helper()
	for most := range len(list) + 2 {
		want := list[:min(most, len(list))]
		if most == 0 {
			want = list
		}
		for range 2 {
			if got := taken(pairs, most); !slices.Equal(got, want) {
				t.Fatal(what, most, got, want)
			}
		}
		calls := 0
		pairs(func(int, string) bool {
			calls++
			return calls < most
		})
		if calls != min(max(most, 1), len(list)) {
			t.Fatal(what, most, calls)
		}
	}
}

// P2.3 and the first example
func TestIteration(t *testing.T) {
	for n := range 40 {
		var list []pair
		for i := range n {
			list = append(list, entry(2*i+1, "v"))
		}
		back := slices.Clone(list)
		slices.Reverse(back)
		for _, m := range []ints{of(t, list), put(list), put(back)} {
			iterates(t, "All", m.All(), list)
			iterates(t, "Back", m.Back(), back)
			for _, k := range near(list) {
				iterates(t, k, m.From(k), only(list, func(key int) bool { return key >= k }))
			}
		}
	}
	if got := taken(of(t, odd).From(2), 0); !slices.Equal(got, odd[1:]) {
		t.Error(got)
	}
}

// P2.3: an iteration within an iteration, and one that goes on while the map
// is worked on, yield what they yield alone.
func TestNestedIteration(t *testing.T) {
	m := of(t, odd)
	all := m.All()
	later := m
	var got []pair
	for k, v := range all {
		for k2 := range all {
			got = append(got, pair{k, v}, pair{k2, ""})
		}
		later, _ = later.Delete(k + 2)
		later = later.Put(k+1, "new")
	}
	var want []pair
	for _, p := range odd {
		for _, p2 := range odd {
			want = append(want, p, pair{p2.Key, ""})
		}
	}
	if !slices.Equal(got, want) {
		t.Error(got)
	}
	check(t, m, odd, near(odd))
}

// P2.3: what the body of a loop does with the flow of control stays its own.
func TestLeavingAnIteration(t *testing.T) {
	find := func(m ints, limit int) string {
		for k, v := range m.From(2) {
			if k > limit {
				return v
			}
		}
		return "none"
	}
	m := of(t, odd)
	if find(m, 0) != "c" || find(m, 3) != "e" || find(m, 5) != "none" {
		t.Error(find(m, 0), find(m, 3), find(m, 5))
	}
	count := 0
outer:
	for range m.All() {
		for k := range m.Back() {
			count++
			if k == 3 {
				continue outer
			}
		}
	}
	if count != 6 {
		t.Error(count)
	}
	defer func() {
		if recover() != "stop" {
			t.Error("the panic of the body is gone")
		}
	}()
	for range m.All() {
		panic("stop")
	}
}

// P2.2: maps that were made in any way answer like the list of their pairs.
func TestOrderOfAnyMap(t *testing.T) {
	for seed := range uint64(60) {
		d := dice(seed)
		list := some(d, 1+d.IntN(80), "v")
		shuffled := slices.Clone(list)
		d.Shuffle(len(shuffled), func(i, j int) { shuffled[i], shuffled[j] = shuffled[j], shuffled[i] })
		for _, m := range []ints{of(t, list), put(list), put(shuffled), tree.Union(of(t, list), put(shuffled))} {
			check(t, m, list, near(list))
		}
	}
}
