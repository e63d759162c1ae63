package tree_test

import (
	"fmt"
	"math"
	"slices"
	"testing"

	"merino/tree"
)

// version is a map and what its functions answered when it was made.
type version struct {
	m       ints
	list    []pair
	depth   int
	answers []string
}

// answers is what the functions of the package answer for m, another map, and
// two keys.
func answers(m, other ints, k, k2 int) []string {
	var all []string
	say := func(results ...any) { all = append(all, fmt.Sprint(results...)) }
	pairs := func(m ints) string { return fmt.Sprint(m.Depth(), m.Len(), m.Pairs()) }
	v, ok := m.Get(k)
	say(m.Len(), m.Depth(), m.Pairs(), m.Rank(k), v, ok)
	say(pairs(m.Put(k, "new")))
	without, ok := m.Delete(k)
	say(pairs(without), ok)
	key, v, ok := m.At(k)
	say(key, v, ok)
	key, v, ok = m.Floor(k)
	say(key, v, ok)
	key, v, ok = m.Ceil(k)
	say(key, v, ok)
	say(taken(m.All(), 0), taken(m.From(k), 0), taken(m.Back(), 0), taken(m.Back(), 1))
	less, v, ok, more := m.Split(k)
	say(pairs(less), v, ok, pairs(more))
	say(pairs(m.Range(k, k2)), pairs(m.Range(k2, k)))
	joined, e := tree.Join(m, other)
	say(pairs(joined), e)
	joined, e = tree.Join(less, more)
	say(pairs(joined), e)
	say(pairs(tree.Union(m, other)), pairs(tree.Intersect(m, other)), pairs(tree.Subtract(m, other)))
	say(tree.Diff(m, other), tree.Diff(other, m))
	return all
}

// made is a new version of the map.
func made(m ints) version {
	return version{m: m, list: m.Pairs(), depth: m.Depth(), answers: answers(m, m.Range(10, 30), 20, 40)}
}

// unchanged fails the test unless every version answers what it did.
func unchanged(t *testing.T, versions []version) {
	t.Helper()
	for i, v := range versions {
		check(t, v.m, v.list, near(v.list))
		if v.m.Depth() != v.depth || !slices.Equal(answers(v.m, v.m.Range(10, 30), 20, 40), v.answers) {
			t.Fatal(i, v.list)
		}
	}
}

// P2.8: old versions, whatever is done with them and with what was made of them.
func TestOldVersions(t *testing.T) {
	for seed := range uint64(6) {
		d := dice(seed)
		versions := []version{made(ints{}), made(of(t, some(d, 40, "v")))}
		for step := range 120 {
			a, b := versions[d.IntN(len(versions))].m, versions[d.IntN(len(versions))].m
			k := d.IntN(80)
			less, _, _, more := a.Split(k)
			without, _ := a.Delete(k)
			joined, _ := tree.Join(less, b.Range(k, 80))
			for _, m := range []ints{
				a.Put(k, fmt.Sprint("s", step)), without, less, more, joined, a.Range(k/2, k),
				tree.Union(a, b), tree.Intersect(a, b), tree.Subtract(a, b),
			} {
				if d.IntN(9) == 0 {
					versions = append(versions, made(m))
				}
			}
		}
		unchanged(t, versions)
	}
}

// P2.8: each of a row of puts and deletes leaves the map before it as it was.
func TestEveryOldVersion(t *testing.T) {
	var versions []version
	var m ints
	for k := range 60 {
		m = m.Put(k*37%60, "v")
		versions = append(versions, made(m))
	}
	for k := range 60 {
		m = m.Put(k*23%60, "w")
		versions = append(versions, made(m))
	}
	for k := range 60 {
		m, _ = m.Delete(k * 41 % 60)
		versions = append(versions, made(m))
	}
	unchanged(t, versions)
}

// P1 and P2 of the document: every call ends without a panic, whatever its
// arguments, and answers the same when it is made again.
func TestEveryCallAnswers(t *testing.T) {
	hostile := []int{math.MinInt, math.MinInt + 1, -2, -1, 0, 1, 2, 3, 5, 6, 62, 63, 64, math.MaxInt - 1, math.MaxInt}
	var list []pair
	for _, k := range hostile {
		list = append(list, entry(k, "v"))
	}
	for _, m := range []ints{{}, put(list[:1]), put(list), of(t, list), of(t, odd)} {
		for _, other := range []ints{{}, put(list[7:]), of(t, list)} {
			for _, k := range hostile {
				for _, k2 := range hostile {
					if first := answers(m, other, k, k2); !slices.Equal(first, answers(m, other, k, k2)) {
						t.Fatal(m.Pairs(), other.Pairs(), k, k2, first)
					}
				}
			}
		}
	}
}

// P2 of the document: goroutines that look at one map answer the same.
func TestManyReaders(t *testing.T) {
	m := of(t, some(dice(1), 200, "v"))
	want := answers(m, m, 20, 40)
	done := make(chan bool)
	for range 8 {
		go func() { done <- slices.Equal(answers(m, m, 20, 40), want) }()
	}
	for range 8 {
		if !<-done {
			t.Error("a reader saw something else")
		}
	}
}
