package num_test

import (
	"math"
	"math/big"
	"slices"
	"testing"

	"merino/api"
	"merino/num"
)

// division is Apportion or Divide.
type division func(total int, weights []int) ([]int, api.Errno)

// divided calls a division that is to succeed, and checks P1.13's sum and that
// the weights stay as they are and are not part of the result.
func divided(t *testing.T, divide division, total int, weights []int) []int {
	t.Helper()
	kept := slices.Clone(weights)
	parts, e := divide(total, weights)
	if e != api.OK || len(parts) != len(weights) {
		t.Fatal(total, weights, parts, e)
	}
	if !slices.Equal(weights, kept) {
		t.Fatal("the weights were changed", kept, weights)
	}
	sum := 0
	for i, part := range parts {
		sum += part
		if part < 0 || weights[i] == 0 && part != 0 {
			t.Error(total, weights, parts)
		}
	}
	if sum != total {
		t.Error("the parts do not sum to the total", total, weights, parts)
	}
	for i := range parts {
		parts[i]++
	}
	if !slices.Equal(weights, kept) {
		t.Fatal("the result shares memory with the weights")
	}
	for i := range parts {
		parts[i]--
	}
	return parts
}

// byRemainders is Apportion by the words of the chapter.
func byRemainders(total int, weights []int) []int {
	parts := make([]int, len(weights))
	rests := make([]*big.Int, len(weights))
	sum, left := 0, total
	for _, w := range weights {
		sum += w
	}
	for i, w := range weights {
		product := new(big.Int).Mul(big.NewInt(int64(total)), big.NewInt(int64(w)))
		quotient, rest := new(big.Int).DivMod(product, big.NewInt(int64(sum)), new(big.Int))
		parts[i], rests[i] = int(quotient.Int64()), rest
		left -= parts[i]
	}
	for range left {
		found := -1
		for i, rest := range rests {
			if rest != nil && (found < 0 || rest.Cmp(rests[found]) > 0) {
				found = i
			}
		}
		parts[found]++
		rests[found] = nil
	}
	return parts
}

// P1.8 and P1.13
func TestApportion(t *testing.T) {
	for _, c := range []struct {
		total         int
		weights, want []int
	}{
		{10, []int{3, 3, 1}, []int{4, 4, 2}},
		{3, []int{1, 1}, []int{2, 1}},
		{5, []int{1, 1, 1}, []int{2, 2, 1}},
		{1, []int{0, 1, 1}, []int{0, 1, 0}},
		{1, []int{1, 2}, []int{0, 1}},
		{0, []int{3, 4}, []int{0, 0}},
		{0, []int{0, 0, 0}, []int{0, 0, 0}},
		{0, nil, nil},
		{7, []int{9}, []int{7}},
		{101, []int{700, 300}, []int{71, 30}},
		{100, []int{71, 30}, []int{70, 30}},
		{api.MaxAmount, []int{api.MaxMass}, []int{api.MaxAmount}},
		{api.MaxAmount, []int{0, 1, 0}, []int{0, api.MaxAmount, 0}},
	} {
		if parts := divided(t, num.Apportion, c.total, c.weights); !slices.Equal(parts, c.want) {
			t.Error(c, parts)
		}
	}
	d := dice(10)
	for range 3000 {
		weights := d.weights(10, d.from(0, 30))
		total := d.sized(d.from(0, 50))
		parts := divided(t, num.Apportion, total, weights)
		if want := byRemainders(total, weights); !slices.Equal(parts, want) {
			t.Error(total, weights, parts, want)
		}
	}
	for range 20 {
		weights := d.weights(256, 30)
		parts := divided(t, num.Apportion, api.MaxAmount, weights)
		if want := byRemainders(api.MaxAmount, weights); !slices.Equal(parts, want) {
			t.Error(weights, parts, want)
		}
	}
}

// P1.13: each part of Apportion is the floor or the ceiling of its exact share.
func TestApportionQuota(t *testing.T) {
	d := dice(11)
	for range 500 {
		weights := d.weights(256, d.from(0, 30))
		total := d.sized(50)
		sum := 0
		for _, w := range weights {
			sum += w
		}
		for i, part := range divided(t, num.Apportion, total, weights) {
			floor, _ := num.MulDiv(total, weights[i], sum, api.Floor)
			ceil, _ := num.MulDiv(total, weights[i], sum, api.Ceil)
			if part != floor && part != ceil {
				t.Error(total, weights, i, part)
			}
		}
	}
}

// byAverages is Divide unit by unit, by the words of the chapter; totals and
// weights are small.
func byAverages(total int, weights []int) []int {
	parts := make([]int, len(weights))
	for range total {
		found := -1
		for i, w := range weights {
			if w > 0 && (found < 0 || (2*parts[i]+1)*weights[found] < (2*parts[found]+1)*w) {
				found = i
			}
		}
		parts[found]++
	}
	return parts
}

// P1.9 and P1.13
func TestDivide(t *testing.T) {
	for _, c := range []struct {
		total         int
		weights, want []int
	}{
		{10, []int{3, 3, 1}, []int{5, 4, 1}},
		{9, []int{3, 3, 1}, []int{4, 4, 1}},
		{1, []int{1, 1}, []int{1, 0}},
		{3, []int{1, 1}, []int{2, 1}},
		{1, []int{0, 1, 1}, []int{0, 1, 0}},
		{2, []int{1, 3}, []int{1, 1}},
		{2, []int{3, 1}, []int{2, 0}},
		{0, []int{3, 4}, []int{0, 0}},
		{0, []int{0, 0}, []int{0, 0}},
		{0, nil, nil},
		{7, []int{0, 9}, []int{0, 7}},
		{api.MaxAmount, []int{api.MaxMass}, []int{api.MaxAmount}},
		{api.MaxAmount - 1, []int{0, 1, 1}, []int{0, api.MaxAmount/2 + 0, api.MaxAmount/2 - 1}},
	} {
		if parts := divided(t, num.Divide, c.total, c.weights); !slices.Equal(parts, c.want) {
			t.Error(c, parts)
		}
	}
	d := dice(12)
	for range 3000 {
		weights := d.weights(12, d.from(0, 30))
		total := d.from(0, 60)
		parts := divided(t, num.Divide, total, weights)
		if want := byAverages(total, weights); !slices.Equal(parts, want) {
			t.Error(total, weights, parts, want)
		}
	}
	for range 30 {
		weights := d.weights(256, d.from(0, 30))
		total := d.from(0, 2000)
		parts := divided(t, num.Divide, total, weights)
		if want := byAverages(total, weights); !slices.Equal(parts, want) {
			t.Error(total, weights, parts, want)
		}
	}
}

// P1.9: totals that are too large for the units. A total of a multiple of the
// weights' sum is divided in their proportion, and the process begins again.
func TestDivideLarge(t *testing.T) {
	d := dice(13)
	for range 1000 {
		weights := d.weights(12, d.from(0, 6))
		sum := 0
		for _, w := range weights {
			sum += w
		}
		total := d.from(0, api.MaxAmount)
		want := byAverages(total%sum, weights)
		scale := d.from(1, api.MaxMass>>6)
		scaled := make([]int, len(weights))
		for i, w := range weights {
			want[i] += total / sum * w
			scaled[i] = scale * w
		}
		for _, list := range [][]int{weights, scaled} {
			if parts := divided(t, num.Divide, total, list); !slices.Equal(parts, want) {
				t.Error(total, list, parts, want)
			}
		}
	}
}

// P1.13 and P1.14
func TestDivideIsFairAndMonotone(t *testing.T) {
	d := dice(14)
	for range 200 {
		weights := d.weights(256, d.from(0, 30))
		total := d.sized(50)
		if total == api.MaxAmount {
			total--
		}
		before := divided(t, num.Divide, total, weights)
		after := divided(t, num.Divide, total+1, weights)
		grown := 0
		for i := range before {
			grown += after[i] - before[i]
			if after[i] < before[i] {
				t.Error("a part shrank", total, weights, i)
			}
		}
		if grown != 1 {
			t.Error("the parts grew by", grown, total, weights)
		}
		fair, e := num.Fair(before, weights)
		same(t, []any{total, weights}, fair, e, true, api.OK)
	}
}

// P1.14: Apportion does not have this property.
func TestApportionIsNotMonotone(t *testing.T) {
	weights := []int{6, 6, 2}
	before := divided(t, num.Apportion, 10, weights)
	after := divided(t, num.Apportion, 11, weights)
	if !slices.Equal(before, []int{4, 4, 2}) || !slices.Equal(after, []int{5, 5, 1}) {
		t.Error(before, after)
	}
}

// P1.8 and P1.9
func TestDivisionErrors(t *testing.T) {
	ones := slices.Repeat([]int{1}, 257)
	for _, c := range []struct {
		total   int
		weights []int
		err     api.Errno
	}{
		{0, ones, api.ErrLimit},
		{-1, ones, api.ErrLimit},
		{1, make([]int, 257), api.ErrLimit},
		{-1, ones[:1], api.ErrArg},
		{api.MaxAmount + 1, ones[:1], api.ErrArg},
		{math.MinInt, ones[:1], api.ErrArg},
		{math.MaxInt, ones[:1], api.ErrArg},
		{-1, nil, api.ErrArg},
		{api.MaxAmount + 1, nil, api.ErrArg},
		{1, []int{1, -1}, api.ErrArg},
		{0, []int{-1}, api.ErrArg},
		{1, []int{-1, 1}, api.ErrArg},
		{1, []int{api.MaxMass + 1}, api.ErrArg},
		{1, []int{1, math.MinInt}, api.ErrArg},
		{1, []int{math.MaxInt, math.MaxInt, 2}, api.ErrArg},
		{1, nil, api.ErrZero},
		{1, []int{0, 0}, api.ErrZero},
		{api.MaxAmount, []int{0}, api.ErrZero},
	} {
		for _, divide := range []division{num.Apportion, num.Divide} {
			if parts, e := divide(c.total, c.weights); len(parts) != 0 || e != c.err {
				t.Error(c.total, len(c.weights), parts, e, c.err)
			}
		}
	}
	for _, divide := range []division{num.Apportion, num.Divide} {
		divided(t, divide, 300, ones[:256])
	}
}

// fair is Fair by the words of the chapter.
func fair(parts, weights []int) bool {
	for i, part := range parts {
		if weights[i] == 0 && part != 0 {
			return false
		}
		for j, other := range parts {
			if weights[i] == 0 || weights[j] == 0 || part == 0 {
				continue
			}
			left := new(big.Int).Mul(big.NewInt(int64(2*part-1)), big.NewInt(int64(weights[j])))
			right := new(big.Int).Mul(big.NewInt(int64(2*other+1)), big.NewInt(int64(weights[i])))
			if left.Cmp(right) > 0 {
				return false
			}
		}
	}
	return true
}

// P1.10
func TestFair(t *testing.T) {
	for _, c := range []struct {
		parts, weights []int
		want           bool
	}{
		{nil, nil, true},
		{[]int{}, nil, true},
		{[]int{5, 4, 1}, []int{3, 3, 1}, true},
		{[]int{4, 5, 1}, []int{3, 3, 1}, true},
		{[]int{4, 4, 2}, []int{3, 3, 1}, true},
		{[]int{4, 3, 3}, []int{3, 3, 1}, false},
		{[]int{6, 3, 1}, []int{3, 3, 1}, false},
		{[]int{0, 0}, []int{0, 0}, true},
		{[]int{0, 0}, []int{1, 5}, true},
		{[]int{1, 0}, []int{0, 5}, false},
		{[]int{0, 1}, []int{1, 0}, false},
		{[]int{0, 1}, []int{0, 1}, true},
		{[]int{1, 0}, []int{1, 3}, false},
		{[]int{1, 1}, []int{1, 3}, true},
		{[]int{0, 2}, []int{1, 3}, true},
		{[]int{0, 3}, []int{1, 3}, false},
		{[]int{api.MaxAmount, 0}, []int{api.MaxMass, api.MaxMass}, false},
		{[]int{api.MaxAmount, api.MaxAmount}, []int{api.MaxMass, api.MaxMass}, true},
		{[]int{api.MaxAmount, api.MaxAmount - 1}, []int{api.MaxMass, api.MaxMass}, true},
		{[]int{api.MaxAmount, api.MaxAmount - 2}, []int{api.MaxMass, api.MaxMass}, false},
	} {
		got, e := num.Fair(c.parts, c.weights)
		same(t, c, got, e, c.want, api.OK)
	}
	d := dice(15)
	for range 3000 {
		weights := d.weights(6, d.from(0, 30))
		parts := divided(t, num.Divide, d.sized(d.from(0, 50)), weights)
		// Two units moved from part to part, or none.
		for range d.from(0, 2) {
			from, to := d.from(0, len(parts)-1), d.from(0, len(parts)-1)
			if parts[from] > 0 {
				parts[from]--
				parts[to]++
			}
		}
		got, e := num.Fair(parts, weights)
		same(t, []any{parts, weights}, got, e, fair(parts, weights), api.OK)
	}
}

// P1.10
func TestFairErrors(t *testing.T) {
	ones := slices.Repeat([]int{1}, 257)
	for _, c := range []struct {
		parts, weights []int
		err            api.Errno
	}{
		{ones, ones, api.ErrLimit},
		{ones, nil, api.ErrLimit},
		{nil, ones, api.ErrLimit},
		{ones[:2], ones[:1], api.ErrArg},
		{ones[:1], ones[:2], api.ErrArg},
		{nil, ones[:1], api.ErrArg},
		{[]int{-1}, []int{1}, api.ErrArg},
		{[]int{api.MaxAmount + 1}, []int{1}, api.ErrArg},
		{[]int{math.MinInt}, []int{0}, api.ErrArg},
		{[]int{math.MaxInt}, []int{1}, api.ErrArg},
		{[]int{1}, []int{-1}, api.ErrArg},
		{[]int{1}, []int{api.MaxMass + 1}, api.ErrArg},
		{[]int{9, 0, -1}, []int{0, 1, 1}, api.ErrArg},
		{[]int{9, 0, 1}, []int{0, 1, -1}, api.ErrArg},
	} {
		got, e := num.Fair(c.parts, c.weights)
		same(t, []any{c.parts, c.weights}, got, e, false, c.err)
	}
	got, e := num.Fair(ones[:256], ones[:256])
	same(t, "256 ones", got, e, true, api.OK)
}
