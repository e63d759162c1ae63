package tree

import (
	"iter"
)

// At returns the pair with exactly i keys before it, and whether there is one.
func (m Map[K, V]) At(i int) (K, V, bool) {
	for n := m.root; n != nil; {
		before := n.left.Len()
		switch {
		case i < before:
			n = n.left.root
		case i > before:
			n = n.right.root
			i -= before + 1
		default:
			return n.Key, n.Value, true
		}
	}
	var none Pair[K, V]
	return none.Key, none.Value, false
}

// Rank returns the number of keys less than k.
func (m Map[K, V]) Rank(k K) int {
	rank := 0
	for n := m.root; n != nil; {
		if n.Key < k {
			rank += n.left.Len() + 1
			n = n.right.root
		} else {
			n = n.left.root
		}
	}
	return rank
}

// Floor returns the pair with the largest key that is at most k, and whether
// there is one.
func (m Map[K, V]) Floor(k K) (K, V, bool) {
	rank := m.Rank(k)
	if _, found := m.Get(k); found {
		return m.At(rank)
	}
	return m.At(rank - 1)
}

// Ceil returns the pair with the smallest key that is at least k, and whether
// there is one.
func (m Map[K, V]) Ceil(k K) (K, V, bool) { return m.At(m.Rank(k)) }

// Pairs returns all pairs in ascending order of keys.
func (m Map[K, V]) Pairs() []Pair[K, V] {
	pairs := make([]Pair[K, V], 0, m.Len())
	for k, v := range m.All() {
		pairs = append(pairs, Pair[K, V]{Key: k, Value: v})
	}
	return pairs
}

// All yields all pairs in ascending order of keys.
func (m Map[K, V]) All() iter.Seq2[K, V] {
	return func(yield func(K, V) bool) { m.ascend(yield) }
}

// From yields the pairs whose key is at least k in ascending order of keys.
func (m Map[K, V]) From(k K) iter.Seq2[K, V] {
	return func(yield func(K, V) bool) { m.ascendFrom(k, yield) }
}

// Back yields all pairs in descending order of keys.
func (m Map[K, V]) Back() iter.Seq2[K, V] {
	return func(yield func(K, V) bool) { m.descend(yield) }
}

// ascend yields all pairs, and reports whether the iteration goes on.
func (m Map[K, V]) ascend(yield func(K, V) bool) bool {
	n := m.root
	return n == nil || n.left.ascend(yield) && yield(n.Key, n.Value) && n.right.ascend(yield)
}

// ascendFrom is ascend for the keys from k.
func (m Map[K, V]) ascendFrom(k K, yield func(K, V) bool) bool {
	n := m.root
	if n == nil {
		return true
	}
	if n.Key < k {
		return n.right.ascendFrom(k, yield)
	}
	return n.left.ascendFrom(k, yield) && yield(n.Key, n.Value) && n.right.ascend(yield)
}

// descend is ascend in descending order.
func (m Map[K, V]) descend(yield func(K, V) bool) bool {
	n := m.root
	return n == nil || n.right.descend(yield) && yield(n.Key, n.Value) && n.left.descend(yield)
}
