package press_test

import (
	"fmt"
	"math/rand/v2"
	"slices"
	"testing"

	"merino/api"
	"merino/press"
)

// The chapter's fourth example, and what no example shows (P8.6).
func TestPack(t *testing.T) {
	most := api.MaxMass
	for _, c := range []struct {
		masses     []int
		most, each int
		in         []int
		boxes      int
	}{
		{nil, 1, 1, nil, 0},
		{[]int{}, most, 12, nil, 0},
		{[]int{6, 4, 4, 3, 3}, 10, 3, []int{0, 0, 1, 1, 1}, 2},
		{[]int{6, 4, 4, 3, 3}, 10, 2, []int{0, 0, 1, 1, 2}, 3},
		{[]int{6, 4, 4, 3, 3}, 10, 1, []int{0, 1, 2, 3, 4}, 5},
		{[]int{6, 4, 4, 3, 3}, 20, 12, []int{0, 0, 0, 0, 0}, 1},
		{[]int{6, 4, 4, 3, 3}, 20, 5, []int{0, 0, 0, 0, 0}, 1},
		{[]int{6, 4, 4, 3, 3}, 20, 4, []int{0, 0, 0, 0, 1}, 2},
		{[]int{6, 4, 4, 3, 3}, 19, 5, []int{0, 0, 0, 0, 1}, 2},
		{[]int{1}, 1, 1, []int{0}, 1},
		{[]int{1, 1}, 1, 2, []int{0, 1}, 2},
		// First fit would need more boxes, or other ones.
		{[]int{3, 3, 7, 7}, 10, 12, []int{0, 1, 0, 1}, 2},
		{[]int{2, 2, 5, 3, 8}, 10, 12, []int{0, 1, 0, 0, 1}, 2},
		{[]int{4, 4, 6, 6, 5, 5}, 10, 3, []int{0, 1, 0, 1, 2, 2}, 3},
		// Boxes of one mass are not alike if one has no place for more things.
		{[]int{2, 2, 4, 1, 1}, 5, 2, []int{0, 0, 1, 1, 2}, 3},
		{[]int{2, 2, 4, 1, 1, 1}, 7, 3, []int{0, 0, 1, 0, 1, 1}, 2},
		{slices.Repeat([]int{most}, 12), most, 12, upTo(12), 12},
		{slices.Repeat([]int{most / 2}, 12), most, 12, []int{0, 0, 1, 1, 2, 2, 3, 3, 4, 4, 5, 5}, 6},
		{slices.Repeat([]int{1}, 12), most, 12, make([]int, 12), 1},
		{slices.Repeat([]int{1}, 12), most, 11, []int{0, 0, 0, 0, 0, 0, 0, 0, 0, 0, 0, 1}, 2},
		{slices.Repeat([]int{1}, 12), most, 1, upTo(12), 12},
		// No two of these can be together.
		{[]int{26, 27, 28, 29, 30, 31, 32, 33, 34, 35, 36, 37}, 50, 12, upTo(12), 12},
	} {
		both(press.Pack(c.masses, c.most, c.each)).is(t, fmt.Sprint(c.masses, c.most, c.each), c.in, c.boxes, api.OK)
	}
}

// isPacked reports whether each box has a mass of at most most and at most
// each things.
func isPacked(masses, in []int, most, each int) bool {
	ones := slices.Repeat([]int{1}, len(masses))
	return slices.Max(sums(masses, in, 12)) <= most && slices.Max(sums(ones, in, 12)) <= each
}

// anyThings is masses, and what a box can carry: at least the greatest of them.
func anyThings(d *rand.Rand, n int) (masses []int, most int) {
	scale := 1 + d.IntN(20)
	masses = some(d, n, 1+d.IntN(scale), scale)
	most = 1 + d.IntN(3*scale)
	for _, mass := range masses {
		most = max(most, mass)
	}
	return masses, most
}

// P8.6: of few things, Pack is what a search of all assignments finds first.
func TestPackIsTheLeast(t *testing.T) {
	d := dice(9)
	for range 1500 {
		masses, most := anyThings(d, d.IntN(7))
		each := 1 + d.IntN(5)
		var best []int
		least := 0
		for best == nil && len(masses) > 0 {
			least++
			lists(len(masses), least, func(in []int) {
				if best == nil && isPacked(masses, in, most, each) {
					best = slices.Clone(in)
				}
			})
		}
		both(press.Pack(masses, most, each)).is(t, fmt.Sprint(masses, most, each), best, least, api.OK)
	}
}

// leastBoxes is the least number of boxes: of each set of things, the box of
// its last thing has a part, and the others have the rest.
func leastBoxes(masses []int, most, each int) int {
	all := 1 << len(masses)
	fits, boxes := make([]bool, all), make([]int, all)
	for set := 1; set < all; set++ {
		mass, things := 0, 0
		for i := range masses {
			mass += masses[i] * (set >> i & 1)
			things += set >> i & 1
		}
		fits[set], boxes[set] = mass <= most && things <= each, 12
		for part := set; 2*part > set; part = (part - 1) & set {
			if fits[part] {
				boxes[set] = min(boxes[set], 1+boxes[set&^part])
			}
		}
	}
	return boxes[all-1]
}

// canPack reports whether things can be put into so many boxes that have this
// in them. The heaviest thing comes first.
func canPack(masses []int, most, each int, boxes [][2]int) bool {
	if len(masses) == 0 {
		return true
	}
	at := slices.Index(masses, slices.Max(masses))
	rest := slices.Delete(slices.Clone(masses), at, at+1)
	for i, box := range boxes {
		if box[0]+masses[at] <= most && box[1] < each && !slices.Contains(boxes[:i], box) {
			more := slices.Clone(boxes)
			more[i] = [2]int{box[0] + masses[at], box[1] + 1}
			if canPack(rest, most, each, more) {
				return true
			}
		}
	}
	return false
}

// P8.6, P8.11: of many things, Pack has the least number of boxes, and
// wherever it puts a thing, no box before that one would do.
func TestManyThings(t *testing.T) {
	d := dice(10)
	for i := range 400 {
		masses, most := anyThings(d, 9+d.IntN(4))
		each := 1 + d.IntN(12)
		if i%4 == 0 {
			masses, most = some(d, 12, api.MaxMass/5, api.MaxMass/2), api.MaxMass-d.IntN(api.MaxMass/3)
		}
		what := fmt.Sprint(masses, most, each)
		in, n, e := press.Pack(masses, most, each)
		if len(in) != len(masses) || e != api.OK || !isPacked(masses, in, most, each) {
			t.Error(what, in, e)
			continue
		}
		equal(t, what, n, leastBoxes(masses, most, each))
		equal(t, what, slices.Max(in), n-1)
		boxes := make([][2]int, n)
		for i, mass := range masses {
			for k := range in[i] {
				other := slices.Clone(boxes)
				other[k] = [2]int{other[k][0] + mass, other[k][1] + 1}
				if other[k][0] <= most && other[k][1] <= each && canPack(masses[i+1:], most, each, other) {
					t.Error(what, in, "but the thing", i, "into", k)
				}
			}
			boxes[in[i]] = [2]int{boxes[in[i]][0] + mass, boxes[in[i]][1] + 1}
		}
	}
}

// bound is Bound by the words of the chapter, for every a.
func bound(masses []int, most int) int {
	greatest := 0
	for a := 0; a <= most/2; a++ {
		n1, n2, s2, s3 := 0, 0, 0, 0
		for _, mass := range masses {
			if mass > most-a {
				n1++
			}
			if mass <= most-a && 2*mass > most {
				n2++
				s2 += mass
			}
			if 2*mass <= most && mass >= a {
				s3 += mass
			}
		}
		more := 0
		for more*most < s3-(n2*most-s2) {
			more++
		}
		greatest = max(greatest, n1+n2+more)
	}
	return greatest
}

// P8.7: bounds that are plain.
func TestBound(t *testing.T) {
	most := api.MaxMass
	for _, c := range []struct {
		masses []int
		most   int
		want   int
	}{
		{nil, 1, 0},
		{nil, most, 0},
		{[]int{1}, 1, 1},
		{[]int{1, 1}, 1, 2},
		{[]int{6, 4, 4, 3, 3}, 10, 2},
		{[]int{6, 4, 4, 3, 3}, 20, 1},
		{[]int{6, 4, 4, 3, 3}, 19, 2},
		// Halves: two to a box; of an odd most nothing is a half.
		{[]int{5, 5, 5}, 10, 2},
		{[]int{5, 5, 5}, 11, 2},
		{[]int{5, 5, 5}, 9, 3},
		{[]int{6, 5, 5}, 10, 2},
		// Beside a mass above most-a, nothing of a or more fits.
		{[]int{7, 7, 4, 4}, 10, 3}, // a = 4
		{[]int{7, 7, 3, 3}, 10, 2},
		{[]int{8, 8, 3, 3}, 10, 3}, // a = 3
		{[]int{9, 9, 9, 2, 2, 2}, 10, 4},
		{[]int{9, 9, 9, 1, 1, 1}, 10, 3},
		{[]int{6, 6, 5, 5}, 10, 3}, // a = 5, the greatest
		{[]int{51, 51, 50}, 101, 2},
		{[]int{52, 52, 50}, 101, 3}, // a = 50, of an odd most
		{slices.Repeat([]int{most}, 12), most, 12},
		{slices.Repeat([]int{most / 2}, 12), most, 6},
		{slices.Repeat([]int{most/2 + 1}, 12), most, 12},
		{slices.Repeat([]int{1}, 12), most, 1},
		{[]int{most - 1, 2, most - 1, 2}, most, 3},
		{[]int{most - 2, 2, most - 2, 2}, most, 2},
		{[]int{most/2 + 1, most / 2, most / 2}, most, 2},
		{[]int{most/2 + 1, most/2 + 1, most / 2}, most, 3},
	} {
		got, e := press.Bound(c.masses, c.most)
		same(t, fmt.Sprint(c.masses, c.most), got, e, c.want, api.OK)
	}
}

// P8.7, P8.11: Bound is the greatest over every a, also where there are many,
// and never more than the boxes of Pack, or less than the masses need.
func TestBoundIsTheGreatest(t *testing.T) {
	d := dice(11)
	above := 0 // bounds above what the sum of the masses needs
	for range 4000 {
		masses, most := anyThings(d, d.IntN(13))
		want := bound(masses, most)
		what := fmt.Sprint(masses, most)
		got, e := press.Bound(masses, most)
		same(t, what, got, e, want, api.OK)
		if got*most < sum(masses) {
			t.Error(what, got)
		}
		if got*most >= sum(masses)+most {
			above++
		}
		_, boxes, e := press.Pack(masses, most, 1+d.IntN(12))
		if got > boxes || e != api.OK {
			t.Error(what, got, boxes, e)
		}
		// What is true of these numbers is true of their multiples.
		times := api.MaxMass / most
		var large []int
		for _, mass := range masses {
			large = append(large, times*mass)
		}
		got, e = press.Bound(large, times*most)
		same(t, fmt.Sprint(large, times*most), got, e, want, api.OK)
	}
	if above < 400 {
		t.Error(above, "bounds are above the sum")
	}
}

// P8.6, P8.7: the errors, in their order.
func TestPackErrors(t *testing.T) {
	fails := func(masses []int, most, each int, want api.Errno) {
		t.Helper()
		both(press.Pack(masses, most, each)).is(t, fmt.Sprint(masses, most, each), nil, 0, want)
	}
	wrong := func(masses []int, most int, want api.Errno) {
		t.Helper()
		for each := 1; each <= 12; each++ {
			fails(masses, most, each, want)
		}
		got, e := press.Bound(masses, most)
		same(t, fmt.Sprint(masses, most), got, e, 0, want)
	}
	for _, n := range append([]int{0}, notMinutes...) {
		wrong(nil, n, api.ErrArg)
		wrong([]int{1}, n, api.ErrArg)
		wrong([]int{n}, 5, api.ErrArg)
		wrong([]int{1, n, 1}, api.MaxMass, api.ErrArg)
		wrong([]int{6, 6, n}, 5, api.ErrArg) // before what is too heavy
		wrong(slices.Repeat([]int{1}, 13), n, api.ErrLimit)
		wrong(slices.Repeat([]int{n}, 13), 5, api.ErrLimit)
	}
	for _, n := range hostile {
		if n < 1 || n > 12 {
			fails(nil, 5, n, api.ErrArg)
			fails([]int{1, 2}, 5, n, api.ErrArg)
			fails([]int{6}, 5, n, api.ErrArg) // before what is too heavy
			fails(slices.Repeat([]int{1}, 13), 5, n, api.ErrLimit)
		}
	}
	wrong(slices.Repeat([]int{1}, 13), 13, api.ErrLimit)
	wrong(make([]int, 5000), 5, api.ErrLimit)
	wrong([]int{6}, 5, api.ErrPlan)
	wrong([]int{1, 5, 6}, 5, api.ErrPlan)
	wrong([]int{api.MaxMass}, api.MaxMass-1, api.ErrPlan)
	wrong([]int{2}, 1, api.ErrPlan)
}

// Rule 4 of the document: no call changes its arguments, or answers with
// memory that it shares.
func TestPackMemory(t *testing.T) {
	masses := []int{6, 4, 4, 3, 3}
	in, _, _ := press.Pack(masses, 10, 3)
	in[0] = -7
	both(press.Pack(masses, 10, 3)).is(t, "again", []int{0, 0, 1, 1, 1}, 2, api.OK)
	press.Bound(masses, 10)
	equal(t, "the masses", masses, []int{6, 4, 4, 3, 3})
}
