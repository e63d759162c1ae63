package tree

import (
	"merino/api"
)

// Split returns the map of the keys less than k, the value of k and whether k
// is there, and the map of the keys greater than k.
func (m Map[K, V]) Split(k K) (Map[K, V], V, bool, Map[K, V]) {
	n := m.root
	switch {
	case n == nil:
		var none V
		return m, none, false, m
	case k < n.Key:
		less, v, found, more := n.left.Split(k)
		return less, v, found, link(more, n.Pair, n.right)
	case n.Key < k:
		less, v, found, more := n.right.Split(k)
		return link(n.left, n.Pair, less), v, found, more
	default:
		return n.left, n.Value, true, n.right
	}
}

// Range returns the map of the keys that are at least from and less than to.
func (m Map[K, V]) Range(from, to K) Map[K, V] {
	_, v, found, rest := m.Split(from)
	if found {
		rest = rest.Put(from, v)
	}
	inside, _, _, _ := rest.Split(to)
	return inside
}

// Join returns the map with the pairs of a and b, whose keys come after those
// of a.
func Join[K Key, V any](a, b Map[K, V]) (Map[K, V], api.Errno) {
	largest, _, some := a.At(a.Len() - 1)
	smallest, _, others := b.At(0)
	if some && others && largest >= smallest {
		return Map[K, V]{}, api.ErrArg
	}
	return chain(a, b), api.OK
}
