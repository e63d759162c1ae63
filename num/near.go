package num

import (
	"merino/api"
)

// maxPath is how many elements a path that FromPath takes may have.
const maxPath = 64

// Path returns the continued fraction of f.
func Path(f api.Frac) ([]int, api.Errno) {
	if !Valid(f) {
		return nil, api.ErrArg
	}
	var path []int
	n, d := f.Num, f.Den
	for d > 0 {
		whole := floor(n, d)
		path = append(path, whole)
		n, d = d, n-whole*d
	}
	return path, api.OK
}

// FromPath returns the fraction that has this continued fraction.
func FromPath(path []int) (api.Frac, api.Errno) {
	if err := checkPath(path); err != api.OK {
		return api.Frac{}, err
	}
	// The fraction lies from the first element to the next integer.
	if !within(path[0], api.MaxNum) {
		return api.Frac{}, api.ErrRange
	}
	before := api.Frac{Num: 1, Den: 0}
	last := api.Frac{Num: path[0], Den: 1}
	for _, step := range path[1:] {
		// The Dens grow from step to step, and none is less than the step.
		if step > api.MaxDen || step*last.Den+before.Den > api.MaxDen {
			return api.Frac{}, api.ErrRange
		}
		before, last = last, along(before, last, step)
	}
	return Make(last.Num, last.Den)
}

// checkPath returns the error of FromPath that does not depend on the result.
func checkPath(path []int) api.Errno {
	if len(path) > maxPath {
		return api.ErrLimit
	}
	if len(path) == 0 {
		return api.ErrArg
	}
	for _, step := range path[1:] {
		if step < 1 {
			return api.ErrArg
		}
	}
	if len(path) > 1 && path[len(path)-1] == 1 {
		return api.ErrArg
	}
	return api.OK
}

// along returns the fraction that follows two neighbours of a continued
// fraction by an element of step.
func along(before, last api.Frac, step int) api.Frac {
	return api.Frac{Num: step*last.Num + before.Num, Den: step*last.Den + before.Den}
}

// Between returns the simplest fraction that lies between a and b.
func Between(a, b api.Frac) (api.Frac, api.Errno) {
	order, err := Cmp(a, b)
	if err != api.OK || order >= 0 {
		return api.Frac{}, api.ErrArg
	}
	if a.Num < 0 && b.Num > 0 {
		return api.Frac{Num: 0, Den: 1}, api.OK
	}
	// The simplest is no more complex than the mediant of a and b: its Den is
	// at most 2^21, and its Num below 2^62.
	if a.Num < 0 {
		n, d := simplest(-b.Num, b.Den, -a.Num, a.Den)
		return Make(-n, d)
	}
	n, d := simplest(a.Num, a.Den, b.Num, b.Den)
	return Make(n, d)
}

// simplest returns the simplest fraction between an/ad and bn/bd, of which the
// first is not negative and less than the second; bd = 0 stands for infinity.
func simplest(an, ad, bn, bd int) (int, int) {
	whole := an / ad
	if bd == 0 || (whole+1)*bd < bn {
		return whole + 1, 1
	}
	// Both lie from whole to whole + 1: what is added to whole is the
	// reciprocal of the simplest fraction between their reciprocals.
	n, d := simplest(bd, bn-whole*bd, ad, an-whole*ad)
	return whole*n + d, n
}

// Best returns the fraction nearest to n/d that has a Den of at most most.
func Best(n, d, most int) (api.Frac, api.Errno) {
	if !within(n, api.MaxNum) || d < 1 || d > api.MaxNum || most < 1 || most > api.MaxDen {
		return api.Frac{}, api.ErrArg
	}
	before, last := api.Frac{Num: 0, Den: 1}, api.Frac{Num: 1, Den: 0}
	top, bottom := n, d
	for bottom > 0 {
		whole := floor(top, bottom)
		if whole*last.Den+before.Den > most {
			// n/d lies between last and the furthest fraction towards the
			// next one; no fraction between these two has a Den up to most.
			other := along(before, last, (most-before.Den)/last.Den)
			return nearer(n, d, last, other), api.OK
		}
		before, last = last, along(before, last, whole)
		top, bottom = bottom, top-whole*bottom
	}
	return last, api.OK
}

// nearer returns the one of last and other, of Best, that is nearer to n/d.
func nearer(n, d int, last, other api.Frac) api.Frac {
	// If they are equally near, last has the smaller Den, or both are integers
	// and last is the floor. As they are neighbours, no product exceeds d.
	if apart(n, d, other)*last.Den < apart(n, d, last)*other.Den {
		return other
	}
	return last
}

// apart returns the distance of f from n/d, times d and f.Den.
func apart(n, d int, f api.Frac) int {
	distance := n*f.Den - f.Num*d
	if distance < 0 {
		return -distance
	}
	return distance
}

// floor returns the floor of n/d; d is above 0.
func floor(n, d int) int {
	whole := n / d
	if n%d < 0 {
		whole--
	}
	return whole
}
