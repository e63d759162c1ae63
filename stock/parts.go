package stock

import (
	"slices"

	"merino/api"
	"merino/num"
)

// divide divides grams among the clips of a bale in the ratio of its parts;
// some of what it returns may have no grams.
func divide(grams int, parts []api.Part) []api.Part {
	weights := make([]int, len(parts))
	for i, p := range parts {
		weights[i] = p.Grams
	}
	// A bale has at most as many parts as there are clips, each of a mass that
	// a weight can have: there is no error.
	amounts, _ := num.Apportion(grams, weights)
	divided := slices.Clone(parts)
	for i, amount := range amounts {
		divided[i].Grams = amount
	}
	return divided
}

// less returns parts less those that divide took from them.
func less(parts, taken []api.Part) []api.Part {
	left := slices.Clone(parts)
	for i, t := range taken {
		left[i].Grams -= t.Grams
	}
	return left
}

// some returns parts without those that have no grams, which are no parts.
func some(parts []api.Part) []api.Part {
	return slices.DeleteFunc(slices.Clone(parts), func(p api.Part) bool { return p.Grams == 0 })
}

// sum returns the parts of several bales together, clip by clip.
func sum(bales []*api.Bale) []api.Part {
	var sums [api.MaxClips + 1]int
	for _, b := range bales {
		for _, p := range b.Parts {
			sums[p.Clip] += p.Grams
		}
	}
	var parts []api.Part
	for clip, grams := range sums {
		if grams > 0 {
			parts = append(parts, api.Part{Clip: clip, Grams: grams})
		}
	}
	return parts
}
