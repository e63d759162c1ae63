package press

import (
	"slices"

	"merino/api"
)

// box is what is in a box: the sum of the masses, and how many things.
type box struct{ mass, things int }

// Pack returns the box of each thing when there are as few boxes as can be, and
// how many there are. It goes through the assignments in lexicographic order,
// so that a later one is better only if it has fewer boxes; a box that is as
// full as one before it can do no better than that one.
func Pack(masses []int, most, each int) ([]int, int, api.Errno) {
	if err := checkThings(masses, most, each); err != api.OK {
		return nil, 0, err
	}
	best, least := make([]int, len(masses)), len(masses)+1
	in := make([]int, len(masses))
	var boxes [api.MaxWorks]box
	var put func(at, used int)
	put = func(at, used int) {
		if used >= least {
			return
		}
		if at == len(masses) {
			copy(best, in)
			least = used
			return
		}
		for i := range used + 1 { // the last of these is empty
			old := boxes[i]
			if old.mass+masses[at] > most || old.things == each || slices.Contains(boxes[:i], old) {
				continue
			}
			in[at] = i
			boxes[i] = box{old.mass + masses[at], old.things + 1}
			put(at+1, max(used, i+1))
			boxes[i] = old
		}
	}
	put(0, 0)
	return best, least, api.OK
}

// Bound returns a number of boxes below which no packing can go. Besides 0 it
// tries only masses as a: where a is raised to the next mass of at most half of
// a box, the same things count, and there is no more room beside the others.
func Bound(masses []int, most int) (int, api.Errno) {
	if err := checkThings(masses, most, 1); err != api.OK {
		return 0, err
	}
	greatest := boxesFor(masses, most, 0)
	for _, a := range masses {
		if a <= most/2 {
			greatest = max(greatest, boxesFor(masses, most, a))
		}
	}
	return greatest, api.OK
}

// boxesFor returns how many boxes the things of a mass of a or more need at
// least: one for each above half of a box, and more for the others as far as
// they do not fit beside those. Beside a thing above most-a none of them fits.
func boxesFor(masses []int, most, a int) int {
	boxes, left := 0, 0 // left is what the others need, less the room beside
	for _, mass := range masses {
		switch {
		case mass > most-a:
			boxes++
		case 2*mass > most:
			boxes++
			left -= most - mass
		case mass >= a:
			left += mass
		}
	}
	return boxes + (max(0, left)+most-1)/most
}

// checkThings returns an error unless things of these masses can be put into
// boxes.
func checkThings(masses []int, most, each int) api.Errno {
	if len(masses) > api.MaxWorks {
		return api.ErrLimit
	}
	if !isWithin(most, 1, api.MaxMass) || !isWithin(each, 1, api.MaxWorks) {
		return api.ErrArg
	}
	for _, mass := range masses {
		if !isWithin(mass, 1, api.MaxMass) {
			return api.ErrArg
		}
	}
	for _, mass := range masses {
		if mass > most {
			return api.ErrPlan
		}
	}
	return api.OK
}
