package accounts_test

import (
	"fmt"
	"math"
	"math/big"
	"math/rand/v2"
	"strings"
	"testing"

	"merino/accounts"
	"merino/api"
)

// dice gives the same numbers in every run.
func dice(seed uint64) *rand.Rand { return rand.New(rand.NewPCG(seed, 7)) }

// hostile are ints at and round the limits.
var hostile = []int{
	math.MinInt, math.MinInt + 1, -api.MaxAmount - 1, -api.MaxCents - 1, -api.MaxCents, -1, 0, 1, 2, 3, 4, 15, 16, 17, 28,
	29, 30, 31, 32, 59, 60, 365, 366, 367, 1999, 2000, 2001, 2004, 2100, 5000, 5001, 10000, 10001, api.MaxDay - 1,
	api.MaxDay, api.MaxDay + 1, api.MaxCents - 1, api.MaxCents, api.MaxCents + 1, api.MaxAmount, api.MaxAmount + 1,
	math.MaxInt - 1, math.MaxInt,
}

// notDays are ints that are no days.
var notDays = []int{math.MinInt, math.MinInt + 1, -1, api.MaxDay + 1, math.MaxInt - 1, math.MaxInt}

// names are valid, notNames are not.
var (
	names    = []string{"a", "z", "b-zed", "a-", "a--0", "anna", "abcdefghijklmnop", "z999999999999999"}
	notNames = []string{"", "A", "1", "-", "1a", "-a", "aB", "a b", "a_b", "a.", "a\x00", "aä", "ä", "a{", " a", "a ",
		"abcdefghijklmnopq", strings.Repeat("a", 1000)}
)

// same fails the test unless a call answered what was wanted.
func same[T comparable](t *testing.T, what any, got T, e api.Errno, want T, wantErr api.Errno) {
	t.Helper()
	if got != want || e != wantErr {
		t.Errorf("%v: got %v, error %d; want %v, error %d", what, got, e, want, wantErr)
	}
}

// equal fails the test unless two values print alike.
func equal(t *testing.T, what, got, want any) {
	t.Helper()
	if fmt.Sprint(got) != fmt.Sprint(want) {
		t.Errorf("%v: got %v; want %v", what, got, want)
	}
}

// ok fails the test unless all calls succeeded.
func ok(t *testing.T, errs ...api.Errno) {
	t.Helper()
	for i, e := range errs {
		if e != api.OK {
			t.Fatalf("call %d: error %d", i, e)
		}
	}
}

// rounded is r rounded to the nearest integer; a half goes up, or to the even
// one of the two.
func rounded(r *big.Rat, isEven bool) int {
	floor := new(big.Int)
	rest := new(big.Int)
	floor.DivMod(r.Num(), r.Denom(), rest) // the rest is not negative
	half := new(big.Int).Lsh(rest, 1).Cmp(r.Denom())
	if half > 0 || half == 0 && (!isEven || floor.Bit(0) == 1) {
		floor.Add(floor, big.NewInt(1))
	}
	return int(floor.Int64())
}

// line is a posting.
func line(account string, cents int) api.Posting { return api.Posting{Account: account, Cents: cents} }

// lines are postings of these cents to accounts one behind the other.
func lines(accounts string, cents ...int) []api.Posting {
	var all []api.Posting
	for i, name := range strings.Fields(accounts) {
		all = append(all, line(name, cents[i]))
	}
	return all
}

// open is a ledger with these accounts.
func open(t *testing.T, accs string) *accounts.Ledger {
	t.Helper()
	l := accounts.New()
	for _, name := range strings.Fields(accs) {
		ok(t, l.Open(name))
	}
	return l
}

// post makes an entry.
func post(t *testing.T, l *accounts.Ledger, day int, postings ...api.Posting) int {
	t.Helper()
	no, e := l.Post(day, postings)
	ok(t, e)
	return no
}

// reverse reverses an entry.
func reverse(t *testing.T, l *accounts.Ledger, no, day int) int {
	t.Helper()
	no, e := l.Reverse(no, day)
	ok(t, e)
	return no
}

// days are those on which the ledgers of the tests are looked at.
var days = []int{0, 1, 2, 4, 7, api.MaxDay}

// looked are the accounts of which a picture tells.
var looked = []string{"a", "b", "c", "d", "e", "new", "x"}

// picture is all that a ledger shows on the days of the tests, as a text.
func picture(l *accounts.Ledger) string {
	var all strings.Builder
	fmt.Fprintln(&all, l.Records())
	for _, account := range looked {
		for i, day := range days {
			balance, e := l.Balance(account, day)
			fmt.Fprintln(&all, account, day, balance, e)
			for _, to := range days[i:] {
				ahead, rows, e := l.Statement(account, day, to)
				fmt.Fprintln(&all, account, day, to, ahead, rows, e)
			}
		}
	}
	for _, day := range days {
		trial, e := l.Trial(day)
		fmt.Fprintln(&all, day, trial, e)
	}
	return all.String()
}

// refused fails the test unless a call returned this error and the ledger
// shows what it showed before.
func refused(t *testing.T, l *accounts.Ledger, what any, call func() (int, api.Errno), want api.Errno) {
	t.Helper()
	before := picture(l)
	no, e := call()
	same(t, what, no, e, 0, want)
	if after := picture(l); after != before {
		t.Errorf("%v: the ledger was %s and is %s", what, before, after)
	}
}

// full is postings that bring an account nearer to 2^50 by 2^43 cents, and
// another one nearer to -2^50.
func full(up, down string) []api.Posting {
	var all []api.Posting
	for range 8 {
		all = append(all, line(up, api.MaxCents), line(down, -api.MaxCents))
	}
	return all
}
