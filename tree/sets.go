package tree

// Union returns the map with every key of a and of b; a key of both has b's
// value.
func Union[K Key, V any](a, b Map[K, V]) Map[K, V] {
	if a.root == nil {
		return b
	}
	if b.root == nil {
		return a
	}
	n := b.root
	less, _, _, more := a.Split(n.Key)
	return link(Union(less, n.left), n.Pair, Union(more, n.right))
}

// Intersect returns the map with the keys that are in both, with b's values.
func Intersect[K Key, V any](a, b Map[K, V]) Map[K, V] {
	if a.root == nil || b.root == nil {
		return Map[K, V]{}
	}
	n := b.root
	less, _, found, more := a.Split(n.Key)
	left, right := Intersect(less, n.left), Intersect(more, n.right)
	if found {
		return link(left, n.Pair, right)
	}
	return chain(left, right)
}

// Subtract returns the map with the pairs of a whose keys are not in b.
func Subtract[K Key, V any](a, b Map[K, V]) Map[K, V] {
	if a.root == nil || b.root == nil {
		return a
	}
	n := b.root
	less, _, _, more := a.Split(n.Key)
	return chain(Subtract(less, n.left), Subtract(more, n.right))
}

// Diff returns a change for each key at which a and b differ, in ascending
// order of keys.
func Diff[K Key, V comparable](a, b Map[K, V]) []Change[K, V] {
	// What the maps share is compared like the rest: a value need not be equal
	// to itself.
	var changes []Change[K, V]
	olds, news := a.Pairs(), b.Pairs()
	for len(olds) > 0 || len(news) > 0 {
		change := first(olds, news)
		if !change.Had || !change.Has || !equal(change.Old, change.New) {
			changes = append(changes, change)
		}
		if change.Had {
			olds = olds[1:]
		}
		if change.Has {
			news = news[1:]
		}
	}
	return changes
}

// first returns what olds and news, of which one is not empty, have at the
// smallest key.
func first[K Key, V any](olds, news []Pair[K, V]) Change[K, V] {
	var change Change[K, V]
	change.Had = len(news) == 0 || len(olds) > 0 && olds[0].Key <= news[0].Key
	change.Has = len(olds) == 0 || len(news) > 0 && news[0].Key <= olds[0].Key
	if change.Had {
		change.Key, change.Old = olds[0].Key, olds[0].Value
	}
	if change.Has {
		change.Key, change.New = news[0].Key, news[0].Value
	}
	return change
}

// equal reports whether x == y. Values that cannot be compared, as slices in
// values of an interface type, are not equal.
func equal[V comparable](x, y V) (same bool) {
	defer func() {
		if recover() != nil {
			same = false
		}
	}()
	return x == y
}
