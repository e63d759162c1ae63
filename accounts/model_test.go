package accounts_test

import (
	"encoding/binary"
	"fmt"
	"hash/fnv"
	"maps"
	"math/rand/v2"
	"slices"
	"strings"

	"merino/api"
)

// model is a ledger by the words of the chapter: plain lists.
type model struct {
	accounts []string
	records  []api.Record
}

// clone is a deep copy, but for the postings, which nothing changes.
func (m *model) clone() *model {
	return &model{slices.Clone(m.accounts), slices.Clone(m.records)}
}

// isDay tells whether a number is a day.
func isDay(n int) bool { return n >= 0 && n <= api.MaxDay }

// sum is the Sum of a record behind one with this Sum.
func sum(before uint64, r api.Record) uint64 {
	var all []byte
	for _, n := range []uint64{before, uint64(r.No), uint64(r.Day), uint64(r.Reverses)} {
		all = binary.LittleEndian.AppendUint64(all, n)
	}
	for _, p := range r.Postings {
		all = append(append(all, byte(len(p.Account)%256)), p.Account...)
		all = binary.LittleEndian.AppendUint64(all, uint64(p.Cents))
	}
	h := fnv.New64a()
	h.Write(all)
	return h.Sum64()
}

// open is the error of Open, or opens the account.
func (m *model) open(account string) api.Errno {
	switch {
	case slices.Contains(notNames, account):
		return api.ErrArg
	case slices.Contains(m.accounts, account):
		return api.ErrExists
	case len(m.accounts) == 128:
		return api.ErrFull
	}
	m.accounts = append(m.accounts, account)
	return api.OK
}

// total is the balance of an account of all entries.
func (m *model) total(account string) int {
	sum := 0
	for _, r := range m.records {
		for _, p := range r.Postings {
			if p.Account == account {
				sum += p.Cents
			}
		}
	}
	return sum
}

// enter is the number of a new entry, or the errors that come last.
func (m *model) enter(day int, postings []api.Posting, reverses int) (int, api.Errno) {
	grown := map[string]int{}
	for _, p := range postings {
		grown[p.Account] += p.Cents
	}
	for account, cents := range grown {
		if now := m.total(account) + cents; now < -1<<50 || now > 1<<50 {
			return 0, api.ErrRange
		}
	}
	n := len(m.records)
	if n == 4096 {
		return 0, api.ErrFull
	}
	r := api.Record{No: n + 1, Day: day, Postings: slices.Clone(postings), Reverses: reverses}
	before := uint64(0)
	if n > 0 {
		before = m.records[n-1].Sum
	}
	r.Sum = sum(before, r)
	m.records = append(m.records, r)
	return n + 1, api.OK
}

// isPast tells whether there is an entry with a later day.
func (m *model) isPast(day int) bool {
	return slices.ContainsFunc(m.records, func(r api.Record) bool { return r.Day > day })
}

// post is what Post answers.
func (m *model) post(day int, postings []api.Posting) (int, api.Errno) {
	switch {
	case !isDay(day):
		return 0, api.ErrArg
	case m.isPast(day):
		return 0, api.ErrState
	case len(postings) > 16:
		return 0, api.ErrLimit
	case len(postings) < 2:
		return 0, api.ErrArg
	}
	all := 0
	for _, p := range postings {
		if !slices.Contains(m.accounts, p.Account) {
			return 0, api.ErrNone
		}
		if p.Cents == 0 || p.Cents < -1<<40 || p.Cents > 1<<40 {
			return 0, api.ErrArg
		}
		all += p.Cents
	}
	if all != 0 {
		return 0, api.ErrSum
	}
	return m.enter(day, postings, 0)
}

// reverse is what Reverse answers.
func (m *model) reverse(no, day int) (int, api.Errno) {
	if no < 1 || no > len(m.records) {
		return 0, api.ErrNone
	}
	if !isDay(day) {
		return 0, api.ErrArg
	}
	isReversed := slices.ContainsFunc(m.records, func(r api.Record) bool { return r.Reverses == no })
	if m.isPast(day) || m.records[no-1].Reverses != 0 || isReversed {
		return 0, api.ErrState
	}
	postings := slices.Clone(m.records[no-1].Postings)
	for i := range postings {
		postings[i].Cents *= -1
	}
	return m.enter(day, postings, no)
}

// statement is what Statement answers of an account that there is.
func (m *model) statement(account string, from, to int) (int, []api.Row) {
	ahead, balance := 0, 0
	var rows []api.Row
	for _, r := range m.records {
		isIn, cents := false, 0
		for _, p := range r.Postings {
			if p.Account == account {
				isIn, cents = true, cents+p.Cents
			}
		}
		balance += cents
		if r.Day < from {
			ahead = balance
		}
		if isIn && r.Day >= from && r.Day <= to {
			rows = append(rows, api.Row{No: r.No, Day: r.Day, Cents: cents, Balance: balance})
		}
	}
	return ahead, rows
}

// trial is what Trial answers of a day.
func (m *model) trial(day int) []api.Posting {
	var all []api.Posting
	for _, account := range slices.Sorted(slices.Values(m.accounts)) {
		if cents, _ := m.statement(account, day+1, day+1); cents != 0 {
			all = append(all, line(account, cents))
		}
	}
	return all
}

// picture is what picture of a ledger must be.
func (m *model) picture() string {
	var all strings.Builder
	fmt.Fprintln(&all, m.records)
	for _, account := range looked {
		isOpen := slices.Contains(m.accounts, account)
		e := api.Errno(api.OK)
		if !isOpen {
			e = api.ErrNone
		}
		for i, day := range days {
			balance, _ := m.statement(account, day+1, day+1)
			fmt.Fprintln(&all, account, day, balance, e)
			for _, to := range days[i:] {
				ahead, rows := m.statement(account, day, to)
				fmt.Fprintln(&all, account, day, to, ahead, rows, e)
			}
		}
	}
	for _, day := range days {
		fmt.Fprintln(&all, day, m.trial(day), api.Errno(api.OK))
	}
	return all.String()
}

// anyPostings is postings that a ledger may be asked for; some are refused.
func (m *model) anyPostings(d *rand.Rand) []api.Posting {
	n := 2 + d.IntN(1+d.IntN(6))
	if d.IntN(20) == 0 {
		n = []int{0, 1, 15, 16, 17, 18}[d.IntN(6)]
	}
	var all []api.Posting
	left := 0
	for i := range n {
		cents := d.IntN(1<<d.IntN(41)+1) - d.IntN(1<<d.IntN(41)+1)
		if cents == 0 {
			cents = 1
		}
		if i == n-1 {
			cents = -left
		}
		if d.IntN(60) == 0 {
			cents = hostile[d.IntN(len(hostile))]
		}
		name := looked[d.IntN(len(looked))]
		if k := len(m.accounts); k > 0 && d.IntN(8) > 0 {
			name = m.accounts[d.IntN(k)]
		}
		all = append(all, line(name, cents))
		left += cents
	}
	return all
}

// anyDay is a day on which a ledger may be asked for an entry.
func (m *model) anyDay(d *rand.Rand) int {
	last := 0
	if n := len(m.records); n > 0 {
		last = m.records[n-1].Day
	}
	switch d.IntN(12) {
	case 0:
		return hostile[d.IntN(len(hostile))]
	case 1:
		return last - 1
	case 2, 3:
		return last + 1
	}
	return last
}

// balances are those of all accounts, of these entries.
func balances(records []api.Record) map[string]int {
	all := map[string]int{}
	for _, r := range records {
		for _, p := range r.Postings {
			all[p.Account] += p.Cents
		}
	}
	maps.DeleteFunc(all, func(_ string, cents int) bool { return cents == 0 })
	return all
}
