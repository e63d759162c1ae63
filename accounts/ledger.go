package accounts

import (
	"maps"
	"slices"

	"merino/api"
	"merino/names"
)

// Ledger is accounts and the entries that were posted to them.
type Ledger struct {
	chain
	balances map[string]int // of each account, of all entries; a made ledger has the map
}

// refusal is what the checks of an entry panic with, to refuse it.
type refusal struct{ err api.Errno }

// New returns a ledger without accounts and entries.
func New() *Ledger { return &Ledger{balances: map[string]int{}} }

// Open opens an account.
func (l *Ledger) Open(account string) api.Errno {
	if !l.isLedger() {
		return api.ErrNil
	}
	if !names.Valid(account) {
		return api.ErrArg
	}
	if l.isOpen(account) {
		return api.ErrExists
	}
	if len(l.balances) == api.MaxAccounts {
		return api.ErrFull
	}
	l.balances[account] = 0
	return api.OK
}

// Post makes an entry and returns its number.
func (l *Ledger) Post(day int, postings []api.Posting) (int, api.Errno) {
	if !l.isLedger() {
		return 0, api.ErrNil
	}
	return attempt(func() int {
		l.checkDay(day)
		l.checkPostings(postings)
		return l.enter(day, slices.Clone(postings), 0)
	})
}

// Reverse makes an entry that undoes another one, and returns its number.
func (l *Ledger) Reverse(no, day int) (int, api.Errno) {
	if !l.isLedger() {
		return 0, api.ErrNil
	}
	return attempt(func() int {
		r := l.find(no)
		refuseIf(r == nil, api.ErrNone)
		l.checkDay(day)
		refuseIf(r.Reverses != 0 || l.isReversed(no), api.ErrState)
		postings := slices.Clone(r.Postings)
		for i := range postings {
			postings[i].Cents = -postings[i].Cents
		}
		return l.enter(day, postings, no)
	})
}

// Balance returns the balance of an account at the end of a day.
func (l *Ledger) Balance(account string, day int) (int, api.Errno) {
	if !l.isLedger() {
		return 0, api.ErrNil
	}
	if !l.isOpen(account) {
		return 0, api.ErrNone
	}
	if !isDay(day) {
		return 0, api.ErrArg
	}
	return l.balance(account, day), api.OK
}

// Statement returns the balance of an account ahead of a day, and what was
// posted to it from then to another day.
func (l *Ledger) Statement(account string, from, to int) (int, []api.Row, api.Errno) {
	if !l.isLedger() {
		return 0, nil, api.ErrNil
	}
	if !l.isOpen(account) {
		return 0, nil, api.ErrNone
	}
	if !isSpan(from, to) {
		return 0, nil, api.ErrArg
	}
	ahead := l.balance(account, from-1)
	balance := ahead
	var rows []api.Row
	for _, r := range l.until(to)[len(l.until(from-1)):] {
		if cents, isIn := posted(r, account); isIn {
			balance += cents
			rows = append(rows, api.Row{No: r.No, Day: r.Day, Cents: cents, Balance: balance})
		}
	}
	return ahead, rows, api.OK
}

// Trial returns the accounts whose balance at the end of a day is not 0.
func (l *Ledger) Trial(day int) ([]api.Posting, api.Errno) {
	if !l.isLedger() {
		return nil, api.ErrNil
	}
	if !isDay(day) {
		return nil, api.ErrArg
	}
	sums := map[string]int{}
	for _, r := range l.until(day) {
		for _, p := range r.Postings {
			sums[p.Account] += p.Cents
		}
	}
	var trial []api.Posting
	for _, account := range slices.Sorted(maps.Keys(sums)) {
		if cents := sums[account]; cents != 0 {
			trial = append(trial, api.Posting{Account: account, Cents: cents})
		}
	}
	return trial, api.OK
}

// Records returns all entries.
func (l *Ledger) Records() []api.Record {
	if !l.isLedger() {
		return nil
	}
	return l.copies()
}

// Copy returns a ledger that is as l is, and independent of it.
func (l *Ledger) Copy() *Ledger {
	if !l.isLedger() {
		return nil
	}
	return &Ledger{chain: l.fork(), balances: maps.Clone(l.balances)}
}

// isLedger reports whether New or Copy made l.
func (l *Ledger) isLedger() bool { return l != nil && l.balances != nil }

// isOpen reports whether there is an account of this name.
func (l *Ledger) isOpen(account string) bool {
	_, ok := l.balances[account]
	return ok
}

// balance returns the sum of what was posted to an account until a day.
func (l *Ledger) balance(account string, day int) int {
	sum := 0
	for _, r := range l.until(day) {
		cents, _ := posted(r, account)
		sum += cents
	}
	return sum
}

// posted returns the sum of the postings of an entry to an account, and
// whether there are any; they may sum to 0.
func posted(r api.Record, account string) (int, bool) {
	sum, isIn := 0, false
	for _, p := range r.Postings {
		if p.Account == account {
			sum += p.Cents
			isIn = true
		}
	}
	return sum, isIn
}

// attempt returns the number of the entry that do makes, or the error with
// which it is refused.
func attempt(do func() int) (no int, err api.Errno) {
	defer func() {
		switch p := recover().(type) {
		case nil:
		case refusal:
			err = p.err
		default:
			// No check panics with it: to go on would hide a fault.
			panic(p)
		}
	}()
	return do(), api.OK
}

// refuseIf refuses the entry that is being made.
func refuseIf(isWrong bool, err api.Errno) {
	if isWrong {
		panic(refusal{err})
	}
}

// checkDay refuses a day on which no entry can be made.
func (l *Ledger) checkDay(day int) {
	refuseIf(!isDay(day), api.ErrArg)
	last := l.last()
	refuseIf(last != nil && day < last.Day, api.ErrState)
}

// checkPostings refuses postings of which no entry can be made.
func (l *Ledger) checkPostings(postings []api.Posting) {
	refuseIf(len(postings) > api.MaxPostings, api.ErrLimit)
	refuseIf(len(postings) < 2, api.ErrArg)
	sum := 0
	for _, p := range postings {
		refuseIf(!l.isOpen(p.Account), api.ErrNone)
		refuseIf(p.Cents == 0 || !isCents(p.Cents), api.ErrArg)
		sum += p.Cents
	}
	refuseIf(sum != 0, api.ErrSum)
}

// enter puts an entry into the ledger, which keeps the postings, and returns
// its number. The entry is refused if a balance or the ledger has no room.
func (l *Ledger) enter(day int, postings []api.Posting, reverses int) int {
	balances := maps.Clone(l.balances)
	for _, p := range postings {
		balances[p.Account] += p.Cents
	}
	for _, p := range postings {
		balance := balances[p.Account]
		refuseIf(balance < -api.MaxAmount || balance > api.MaxAmount, api.ErrRange)
	}
	refuseIf(l.isFull(), api.ErrFull)
	l.balances = balances
	return l.link(day, postings, reverses)
}
