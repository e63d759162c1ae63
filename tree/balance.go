package tree

// node is the root of a map that is not empty: a pair, and the maps of the
// keys below and above it, whose depths differ by at most 1. Maps share nodes,
// so a node never changes.
type node[K Key, V any] struct {
	Pair[K, V]
	left, right   Map[K, V]
	length, depth int
}

// Depth returns the number of keys on the longest path from the root to a leaf.
func (m Map[K, V]) Depth() int {
	if m.root == nil {
		return 0
	}
	return m.root.depth
}

// tie returns the map with this pair at its root, of maps whose depths differ
// by at most 1.
func tie[K Key, V any](left Map[K, V], pair Pair[K, V], right Map[K, V]) Map[K, V] {
	return Map[K, V]{&node[K, V]{
		Pair:   pair,
		left:   left,
		right:  right,
		length: left.Len() + 1 + right.Len(),
		depth:  max(left.Depth(), right.Depth()) + 1,
	}}
}

// link returns the map with the pairs of less, pair, and the pairs of more, in
// this order. It is at most 1 deeper than the deeper one of less and more.
func link[K Key, V any](less Map[K, V], pair Pair[K, V], more Map[K, V]) Map[K, V] {
	switch {
	case less.Depth() > more.Depth()+1:
		n := less.root
		return level(n.left, n.Pair, link(n.right, pair, more))
	case more.Depth() > less.Depth()+1:
		n := more.root
		return level(link(less, pair, n.left), n.Pair, n.right)
	default:
		return tie(less, pair, more)
	}
}

// level is tie for maps whose depths differ by at most 2.
func level[K Key, V any](left Map[K, V], pair Pair[K, V], right Map[K, V]) Map[K, V] {
	switch {
	case left.Depth() > right.Depth()+1:
		n := left.root
		// The inner map would stay as deep as before under the outer pair: if
		// it is what makes left too deep, it is divided.
		if inner := n.right.root; n.right.Depth() > n.left.Depth() {
			return tie(tie(n.left, n.Pair, inner.left), inner.Pair, tie(inner.right, pair, right))
		}
		return tie(n.left, n.Pair, tie(n.right, pair, right))
	case right.Depth() > left.Depth()+1:
		n := right.root
		if inner := n.left.root; n.left.Depth() > n.right.Depth() {
			return tie(tie(left, pair, inner.left), inner.Pair, tie(inner.right, n.Pair, n.right))
		}
		return tie(tie(left, pair, n.left), n.Pair, n.right)
	default:
		return tie(left, pair, right)
	}
}

// chain returns the map with the pairs of less and those of more, in this order.
func chain[K Key, V any](less, more Map[K, V]) Map[K, V] {
	k, v, found := more.At(0)
	if !found {
		return less
	}
	rest, _ := more.Delete(k)
	return link(less, Pair[K, V]{Key: k, Value: v}, rest)
}
