package accounts_test

import (
	"fmt"
	"math"
	"math/big"
	"math/rand/v2"
	"slices"
	"testing"

	"merino/accounts"
	"merino/api"
)

// square is a matrix of n rows that has these debts: from, to, cents.
func square(n int, debts ...[3]int) [][]int {
	all := make([][]int, n)
	for i := range all {
		all[i] = make([]int, n)
	}
	for _, d := range debts {
		all[d[0]][d[1]] = d[2]
	}
	return all
}

// anyOwed is what n members owe one another, at most that much; about every
// rare-th of them owes another one something.
func anyOwed(d *rand.Rand, n, most, rare int) [][]int {
	all := square(n)
	for i := range all {
		for j := range all {
			if i != j && d.IntN(rare) == 0 {
				all[i][j] = d.IntN(most + 1)
			}
		}
	}
	return all
}

// nets is Nets, by the words of the chapter.
func nets(owed [][]int) []int {
	var all []int
	for i := range owed {
		net := 0
		for j := range owed {
			net += owed[j][i] - owed[i][j]
		}
		all = append(all, net)
	}
	return all
}

// total is the sum of a matrix.
func total(owed [][]int) int {
	sum := 0
	for _, cents := range slices.Concat(owed...) {
		sum += cents
	}
	return sum
}

// compresses fails the test unless Compress leaves this.
func compresses(t *testing.T, owed, want [][]int) {
	t.Helper()
	before := fmt.Sprint(owed)
	left, cancelled, e := accounts.Compress(owed)
	same(t, owed, fmt.Sprint(left), e, fmt.Sprint(want), api.OK)
	equal(t, owed, cancelled, total(owed)-total(want))
	equal(t, "what is owed", owed, before)
}

// The chapter's third example, and debts where what is left is plain (P7.8).
func TestCompress(t *testing.T) {
	compresses(t, square(3, [3]int{0, 1, 5}, [3]int{1, 2, 4}, [3]int{2, 0, 3}), square(3, [3]int{0, 1, 2}, [3]int{1, 2, 1}))
	compresses(t, nil, nil)
	compresses(t, [][]int{}, nil)
	compresses(t, square(1), square(1))
	compresses(t, square(10), square(10))
	compresses(t, square(2, [3]int{0, 1, 5}, [3]int{1, 0, 7}), square(2, [3]int{1, 0, 2}))
	compresses(t, square(2, [3]int{0, 1, api.MaxCents}, [3]int{1, 0, api.MaxCents}), square(2))
	// A chain of debts has no cycle, and stays: debts are not passed on.
	chain := square(3, [3]int{0, 1, 5}, [3]int{1, 2, 5})
	compresses(t, chain, chain)
	// Two cycles share the debt of 0 to 1: the one round 2 is cancelled first,
	// as then the first row is as small, and the second one smaller.
	compresses(t, square(4, [3]int{0, 1, 1}, [3]int{1, 2, 1}, [3]int{2, 0, 1}, [3]int{1, 3, 1}, [3]int{3, 0, 1}),
		square(4, [3]int{1, 3, 1}, [3]int{3, 0, 1}))
	// The longer of two cycles cancels more.
	compresses(t, square(4, [3]int{0, 1, 1}, [3]int{1, 0, 1}, [3]int{1, 2, 1}, [3]int{2, 3, 1}, [3]int{3, 0, 1}),
		square(4, [3]int{1, 0, 1}))
	// All members owe all others as much.
	all := square(10)
	for i, row := range all {
		for j := range row {
			if i != j {
				row[j] = api.MaxCents
			}
		}
	}
	compresses(t, all, square(10))
}

// P7.8: of few members, what is left is what a search of all matrices finds.
func TestCompressIsTheBest(t *testing.T) {
	d := dice(10)
	cancelled := 0
	for i := range 1200 {
		n, most := 2+d.IntN(2), 1+d.IntN(3)
		if i%4 == 0 {
			n, most = 4, 1
		}
		owed := anyOwed(d, n, most, 1+d.IntN(2))
		want := nets(owed)
		var best [][]int
		left := square(n)
		// Later matrices are lexicographically greater.
		var search func(at int)
		search = func(at int) {
			if at == n*n {
				if slices.Equal(nets(left), want) && (best == nil || total(left) < total(best)) {
					best = nil
					for _, row := range left {
						best = append(best, slices.Clone(row))
					}
				}
				return
			}
			for cents := range owed[at/n][at%n] + 1 {
				left[at/n][at%n] = cents
				search(at + 1)
			}
		}
		search(0)
		compresses(t, owed, best)
		cancelled += total(owed) - total(best)
	}
	if cancelled < 1000 {
		t.Error(cancelled, "cents were cancelled")
	}
}

// isBest reports whether no matrix with the same nets has a smaller sum than
// left, or is lexicographically less with the same sum. Each cent of a debt is
// taken to weigh one and, besides, a bit more the earlier the debt stands, so
// little that all later debts together do not outweigh it: then no closed walk
// along debts that can be made smaller or greater may weigh less than 0.
func isBest(owed, left [][]int) bool {
	type step struct {
		from, to int
		weight   *big.Int
	}
	n := len(owed)
	var steps []step
	for i := range owed {
		for j := range owed {
			w := new(big.Int).Lsh(big.NewInt(1), 300)
			w.Add(w, new(big.Int).Lsh(big.NewInt(1), uint(2*(n*n-i*n-j))))
			if left[i][j] < owed[i][j] {
				steps = append(steps, step{i, j, w})
			}
			if left[i][j] > 0 {
				steps = append(steps, step{j, i, new(big.Int).Neg(w)})
			}
		}
	}
	least := make([]*big.Int, n)
	for i := range least {
		least[i] = new(big.Int)
	}
	for range n {
		isLower := false
		for _, s := range steps {
			if w := new(big.Int).Add(least[s.from], s.weight); w.Cmp(least[s.to]) < 0 {
				least[s.to], isLower = w, true
			}
		}
		if !isLower {
			return true
		}
	}
	return false
}

// hasCycle reports whether there are members each of whom owes the next one,
// and the last one the first: whoever owes nobody is taken away, and then
// those who owe nobody else, until nobody is left.
func hasCycle(left [][]int) bool {
	isGone := make([]bool, len(left))
	for range left {
		for i, row := range left {
			owesNobody := true
			for j, cents := range row {
				owesNobody = owesNobody && (cents == 0 || isGone[j])
			}
			isGone[i] = isGone[i] || owesNobody
		}
	}
	return slices.Contains(isGone, false)
}

// P7.8 and P7.12: what is left of the debts of up to ten members keeps within
// them, with the same nets, is the best by a certificate, and has no cycle;
// compressed again, it stays.
func TestCompressed(t *testing.T) {
	d := dice(11)
	for range 500 {
		owed := anyOwed(d, 2+d.IntN(9), []int{1, 2, 5, 1000, api.MaxCents}[d.IntN(5)], 1+d.IntN(4))
		left, cancelled, e := accounts.Compress(owed)
		ok(t, e)
		for i, row := range left {
			for j, cents := range row {
				if len(row) != len(owed) || cents < 0 || cents > owed[i][j] {
					t.Fatal(owed, left)
				}
			}
		}
		equal(t, owed, []any{len(left), nets(left), total(owed) - total(left)}, []any{len(owed), nets(owed), cancelled})
		if !isBest(owed, left) || hasCycle(left) {
			t.Error(owed, left)
		}
		compresses(t, left, left)
	}
}

// P7.8: nets.
func TestNets(t *testing.T) {
	d := dice(12)
	for _, c := range []struct {
		owed [][]int
		want string
	}{
		{nil, "[]"}, {square(1), "[0]"}, {square(2, [3]int{0, 1, 5}, [3]int{1, 0, 7}), "[2 -2]"},
		{square(3, [3]int{0, 1, 5}, [3]int{1, 2, 4}, [3]int{2, 0, 3}), "[-2 1 1]"},
	} {
		got, e := accounts.Nets(c.owed)
		same(t, c.owed, fmt.Sprint(got), e, c.want, api.OK)
	}
	for range 300 {
		owed := anyOwed(d, 1+d.IntN(10), api.MaxCents, 1+d.IntN(2))
		before := fmt.Sprint(owed)
		got, e := accounts.Nets(owed)
		same(t, owed, fmt.Sprint(got), e, fmt.Sprint(nets(owed)), api.OK)
		equal(t, "what is owed", owed, before)
	}
	most := square(10)
	for i := range 9 {
		most[i+1][0] = api.MaxCents
	}
	got, e := accounts.Nets(most)
	same(t, "the greatest net", got[0], e, 9*api.MaxCents, api.OK)
}

// P7.8: the errors of Nets and Compress.
func TestOwedErrors(t *testing.T) {
	fails := func(owed [][]int, want api.Errno) {
		t.Helper()
		nets, e := accounts.Nets(owed)
		same(t, owed, len(nets), e, 0, want)
		left, cancelled, e := accounts.Compress(owed)
		same(t, owed, cancelled, e, 0, want)
		equal(t, owed, len(left), 0)
	}
	fails(square(11), api.ErrLimit)
	fails(make([][]int, 11), api.ErrLimit)
	fails(make([][]int, 2000), api.ErrLimit)
	for n := 1; n <= 10; n++ {
		fails(make([][]int, n), api.ErrArg)
		for i := range n {
			for _, cents := range []int{-1, api.MaxCents + 1, math.MinInt, math.MaxInt} {
				fails(square(n, [3]int{i, n - 1 - i, cents}), api.ErrArg)
			}
			fails(square(n, [3]int{i, i, 1}), api.ErrArg)
			fails(square(n, [3]int{i, i, -1}), api.ErrArg)
			owed := square(n)
			owed[i] = owed[i][:n-1]
			fails(owed, api.ErrArg)
			owed[i] = make([]int, n+1)
			fails(owed, api.ErrArg)
			owed[i] = nil
			fails(owed, api.ErrArg)
		}
	}
	fails(append(square(10), []int{-1}), api.ErrLimit)
}

// Rule 4 of the document: what is left shares no memory with what was owed, nor
// its rows with one another.
func TestCompressMemory(t *testing.T) {
	owed := square(3, [3]int{0, 1, 5}, [3]int{0, 2, 1}, [3]int{1, 2, 4})
	before := fmt.Sprint(owed)
	left, _, e := accounts.Compress(owed)
	ok(t, e)
	for i, row := range left {
		rest := fmt.Sprint(left[i+1:])
		_ = append(row, 77)
		for j := range row {
			row[j] = 77
		}
		equal(t, "the rows behind", left[i+1:], rest)
	}
	equal(t, "what is owed", owed, before)
	again, _, _ := accounts.Compress(owed)
	equal(t, "again", again, before)
}
