package tree

import (
	"math/bits"
	"math/rand/v2"
	"testing"

	"merino/api"
)

// sound fails the test unless the nodes of m hold what they say: the length and
// the depth of what is below them, keys between low and high, and maps whose
// depths differ by at most 1. It returns the length and the depth, counted.
func sound(t *testing.T, m Map[int, int], low, high int) (int, int) {
	t.Helper()
	n := m.root
	if n == nil {
		return 0, 0
	}
	if n.Key < low || n.Key > high {
		t.Fatal(n.Key, low, high)
	}
	length, depth := sound(t, n.left, low, n.Key-1)
	length2, depth2 := sound(t, n.right, n.Key+1, high)
	if depth-depth2 > 1 || depth2-depth > 1 {
		t.Fatal(n.Key, depth, depth2)
	}
	length, depth = length+1+length2, max(depth, depth2)+1
	if n.length != length || n.depth != depth || m.Len() != length || m.Depth() != depth {
		t.Fatal(n.Key, n.length, length, n.depth, depth)
	}
	if depth > 3*bits.Len(uint(length)) {
		t.Fatal(length, depth)
	}
	return length, depth
}

const span = 1 << 12

// grown is the map of the keys from first on, a step apart, put in one by one.
func grown(first, step, count int) Map[int, int] {
	var m Map[int, int]
	for i := range count {
		m = m.Put(first+i*step, i)
	}
	return m
}

// P2.7: Depth is counted as the chapter says.
func TestDepth(t *testing.T) {
	for n, want := range []int{0, 1, 2, 2, 3, 3, 3, 3, 4} {
		pairs := make([]Pair[int, int], n)
		for i := range pairs {
			pairs[i].Key = i
		}
		m, e := Of(pairs)
		if m.Depth() != want || e != api.OK {
			t.Error(n, m.Depth(), e)
		}
		sound(t, m, 0, n)
	}
}

// P2.7: ascending and descending puts, and deletes from either end.
func TestDepthOfRuns(t *testing.T) {
	for _, m := range []Map[int, int]{grown(0, 1, 1000), grown(span, -1, 1000), grown(0, 3, 1000)} {
		sound(t, m, 0, span)
		up, down := m, m
		for range m.Len() {
			smallest, _, _ := up.At(0)
			up, _ = up.Delete(smallest)
			sound(t, up, 0, span)
			largest, _, _ := down.At(down.Len() - 1)
			down, _ = down.Delete(largest)
			sound(t, down, 0, span)
		}
		if up.Len() != 0 || down.Len() != 0 {
			t.Error(up.Len(), down.Len())
		}
	}
}

// P2.7: however a map was made, its nodes are sound.
func TestDepthOfAnyMap(t *testing.T) {
	for seed := range uint64(20) {
		d := rand.New(rand.NewPCG(seed, 7))
		maps := []Map[int, int]{{}, grown(0, 5, 300), grown(span, -7, 200), grown(900, 1, 40)}
		for range 600 {
			a, b := maps[d.IntN(len(maps))], maps[d.IntN(len(maps))]
			k, k2 := d.IntN(span), d.IntN(span)
			less, _, _, more := a.Split(k)
			joined, e := Join(less, b.Range(k, span))
			if e != api.OK {
				t.Fatal(seed, k, e)
			}
			without, _ := a.Delete(k)
			made := []Map[int, int]{
				a.Put(k, k2), without, less, more, joined, a.Range(k, k2),
				Union(a, b), Intersect(a, b), Subtract(a, b), Union(a.Range(0, k), b.Range(k2, span)),
			}
			for _, m := range made {
				sound(t, m, 0, span)
			}
			next := made[d.IntN(len(made))]
			if len(maps) < 40 {
				maps = append(maps, next)
			} else {
				maps[d.IntN(len(maps))] = next
			}
		}
	}
}

// P2.7: single keys at either end of a deep map, and maps of very different
// depths joined.
func TestDepthOfJoins(t *testing.T) {
	for n := range 200 {
		for _, n2 := range []int{0, 1, 2, 3, 5, 10, 30, 200} {
			for _, sizes := range [][2]int{{n, n2}, {n2, n}} {
				m, e := Join(grown(0, 1, sizes[0]), grown(sizes[0], 1, sizes[1]))
				if e != api.OK || m.Len() != n+n2 {
					t.Fatal(n, n2, e)
				}
				sound(t, m, 0, span)
			}
		}
	}
}
