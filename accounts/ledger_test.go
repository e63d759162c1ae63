package accounts_test

import (
	"fmt"
	"math"
	"strconv"
	"testing"

	"merino/accounts"
	"merino/api"
)

// P7.5: the errors of Open, and the most accounts that there can be.
func TestOpen(t *testing.T) {
	l := accounts.New()
	for _, name := range names {
		ok(t, l.Open(name))
		same(t, name, 0, l.Open(name), 0, api.ErrExists)
		balance, e := l.Balance(name, 0)
		same(t, name, balance, e, 0, api.OK)
	}
	for _, name := range notNames {
		same(t, name, 0, l.Open(name), 0, api.ErrArg)
		balance, e := l.Balance(name, 0)
		same(t, name, balance, e, 0, api.ErrNone)
	}
	for i := len(names); i < api.MaxAccounts; i++ {
		ok(t, l.Open("n"+strconv.Itoa(i)))
	}
	same(t, "one more", 0, l.Open("more"), 0, api.ErrFull)
	same(t, "again", 0, l.Open("a"), 0, api.ErrExists)
	same(t, "no name", 0, l.Open("A"), 0, api.ErrArg)
	_, e := l.Balance("more", 0)
	same(t, "one more", 0, e, 0, api.ErrNone)
	// Accounts are bare of entries, and count whether they have any or not.
	equal(t, "records", len(l.Records()), 0)
	trial, e := l.Trial(api.MaxDay)
	same(t, "trial", len(trial), e, 0, api.OK)
}

// P7.5 and P7.6: a few entries, and what stands in the books behind them.
func TestPost(t *testing.T) {
	l := open(t, "c b a")
	equal(t, "no", post(t, l, 3, lines("a b", 5, -5)...), 1)
	equal(t, "no", post(t, l, 3, lines("b c b a", 7, -2, -4, -1)...), 2)
	equal(t, "no", post(t, l, 5, lines("c c", 9, -9)...), 3)
	equal(t, "no", reverse(t, l, 1, 5), 4)
	equal(t, "no", post(t, l, api.MaxDay, lines("a c b", 1, -3, 2)...), 5)
	records := l.Records()
	for i, want := range []string{"{1 3 [{a 5} {b -5}] 0", "{2 3 [{b 7} {c -2} {b -4} {a -1}] 0", "{3 5 [{c 9} {c -9}] 0",
		"{4 5 [{a -5} {b 5}] 1", "{5 1000000 [{a 1} {c -3} {b 2}] 0"} {
		equal(t, i, fmt.Sprint(records[i]), want+fmt.Sprint(" ", records[i].Sum, "}"))
	}
	for _, c := range []struct {
		account string
		day     int
		want    int
	}{
		{"a", 0, 0}, {"a", 2, 0}, {"a", 3, 4}, {"a", 4, 4}, {"a", 5, -1}, {"a", api.MaxDay - 1, -1}, {"a", api.MaxDay, 0},
		{"b", 3, -2}, {"b", 5, 3}, {"b", api.MaxDay, 5}, {"c", 3, -2}, {"c", 5, -2}, {"c", api.MaxDay, -5},
	} {
		got, e := l.Balance(c.account, c.day)
		same(t, c, got, e, c.want, api.OK)
	}
	for _, c := range []struct {
		account  string
		from, to int
		ahead    int
		want     string
	}{
		{"a", 0, api.MaxDay, 0, "[{1 3 5 5} {2 3 -1 4} {4 5 -5 -1} {5 1000000 1 0}]"}, {"a", 0, 2, 0, "[]"},
		{"a", 3, 3, 0, "[{1 3 5 5} {2 3 -1 4}]"}, {"a", 4, 4, 4, "[]"}, {"a", 4, 5, 4, "[{4 5 -5 -1}]"},
		{"a", api.MaxDay, api.MaxDay, -1, "[{5 1000000 1 0}]"}, {"b", 0, 5, 0, "[{1 3 -5 -5} {2 3 3 -2} {4 5 5 3}]"},
		{"c", 5, 5, -2, "[{3 5 0 -2}]"}, // an entry whose postings to it sum to 0
	} {
		ahead, rows, e := l.Statement(c.account, c.from, c.to)
		same(t, c, ahead, e, c.ahead, api.OK)
		equal(t, c, rows, c.want)
	}
	for day, want := range map[int]string{0: "[]", 2: "[]", 3: "[{a 4} {b -2} {c -2}]", 5: "[{a -1} {b 3} {c -2}]",
		api.MaxDay: "[{b 5} {c -5}]"} {
		trial, e := l.Trial(day)
		same(t, day, fmt.Sprint(trial), e, want, api.OK)
	}
}

// P7.6: the accounts of a trial ascend by bytes.
func TestTrialAscends(t *testing.T) {
	l := open(t, "z b-2 b b1 b-10 ba a")
	post(t, l, 0, lines("z b-2 b b1 b-10 ba a", 1, 2, 3, 4, 5, 6, -21)...)
	trial, e := l.Trial(0)
	same(t, "trial", fmt.Sprint(trial), e, "[{a -21} {b 3} {b-10 5} {b-2 2} {b1 4} {ba 6} {z 1}]", api.OK)
}

// P7.5: the errors of Post, in their order.
func TestPostErrors(t *testing.T) {
	l := open(t, "a b c")
	post(t, l, 5, lines("a b", 5, -5)...)
	good, none := lines("a b", 5, -5), lines("x b", 5, -5)
	long := func(n int, last api.Posting) []api.Posting {
		var all []api.Posting
		for i := range n - 1 {
			all = append(all, line("a", 1-i%2*2))
		}
		return append(all, last)
	}
	for i, c := range []struct {
		day      int
		postings []api.Posting
		want     api.Errno
	}{
		{-1, good, api.ErrArg}, {api.MaxDay + 1, good, api.ErrArg}, {math.MinInt, nil, api.ErrArg}, {math.MaxInt, good, api.ErrArg},
		{-1, long(17, line("a", 0)), api.ErrArg}, {4, good, api.ErrState}, {0, good, api.ErrState}, {4, none, api.ErrState},
		{4, long(17, line("x", 0)), api.ErrState}, {4, nil, api.ErrState}, {5, long(17, line("a", 0)), api.ErrLimit},
		{5, long(99, line("x", 1)), api.ErrLimit}, {5, long(17, line("a", 1)), api.ErrLimit}, {5, nil, api.ErrArg},
		{5, lines("a", 5), api.ErrArg}, {5, lines("x", 0), api.ErrArg}, {5, none, api.ErrNone}, {5, lines("b x", 5, -5), api.ErrNone},
		{5, lines("x b", 0, -5), api.ErrNone}, {5, lines("x b", 5, 0), api.ErrNone}, {5, lines("a b", 0, 0), api.ErrArg},
		{5, lines("a b", 5, 0), api.ErrArg}, {5, lines("a x", 0, 5), api.ErrArg}, {5, lines("a x", math.MaxInt, 5), api.ErrArg},
		{5, lines("a b", api.MaxCents+1, -api.MaxCents-1), api.ErrArg}, {5, lines("a b", -api.MaxCents, api.MaxCents+1), api.ErrArg},
		{5, lines("a b c", math.MinInt, math.MinInt, 1), api.ErrArg}, {5, lines("a b", 1<<63-1, -1<<63), api.ErrArg},
		{5, lines("a b", 5, 5), api.ErrSum}, {5, lines("a b", 5, -4), api.ErrSum}, {5, lines("a b c", 1, 1, -1), api.ErrSum},
		{5, lines("a b x", 1, 1, -1), api.ErrNone}, {5, lines("a b c", 1, 1, 0), api.ErrArg},
		{5, long(16, line("b", 1)), api.ErrSum}, {5, lines("A b", 1, -1), api.ErrNone},
		{5, []api.Posting{line("", 1), line("b", -1)}, api.ErrNone},
	} {
		refused(t, l, i, func() (int, api.Errno) { return l.Post(c.day, c.postings) }, c.want)
	}
	equal(t, "no", post(t, l, 5, lines("a b", api.MaxCents, -api.MaxCents)...), 2)
	equal(t, "no", post(t, l, 5, long(16, line("b", -1))...), 3)
	equal(t, "no", post(t, l, 6, lines("a a", 1, -1)...), 4)
	equal(t, "no", post(t, l, api.MaxDay, good...), 5)
	refused(t, l, "before", func() (int, api.Errno) { return l.Post(api.MaxDay-1, good) }, api.ErrState)
}

// P7.5: the errors of Reverse, in their order.
func TestReverseErrors(t *testing.T) {
	l := open(t, "a b c")
	for _, no := range []int{math.MinInt, -1, 0, 1, math.MaxInt} {
		refused(t, l, no, func() (int, api.Errno) { return l.Reverse(no, 3) }, api.ErrNone)
	}
	post(t, l, 3, lines("a b", 5, -5)...)
	post(t, l, 3, lines("b b a c", 5, 6, -7, -4)...)
	for _, c := range []struct {
		no, day int
		want    api.Errno
	}{
		{0, -1, api.ErrNone}, {3, 3, api.ErrNone}, {3, -1, api.ErrNone}, {-1, 0, api.ErrNone}, {math.MaxInt, 3, api.ErrNone},
		{math.MinInt, 3, api.ErrNone}, {1, -1, api.ErrArg}, {1, api.MaxDay + 1, api.ErrArg}, {1, math.MinInt, api.ErrArg},
		{2, math.MaxInt, api.ErrArg}, {1, 2, api.ErrState}, {2, 0, api.ErrState},
	} {
		refused(t, l, c, func() (int, api.Errno) { return l.Reverse(c.no, c.day) }, c.want)
	}
	equal(t, "no", reverse(t, l, 2, 3), 3)
	for _, c := range []struct {
		no, day int
		want    api.Errno
	}{
		{2, 3, api.ErrState}, {3, 3, api.ErrState}, {2, api.MaxDay, api.ErrState}, {3, api.MaxDay, api.ErrState},
		{2, -1, api.ErrArg}, {3, -1, api.ErrArg}, {1, 2, api.ErrState}, {4, 3, api.ErrNone},
	} {
		refused(t, l, c, func() (int, api.Errno) { return l.Reverse(c.no, c.day) }, c.want)
	}
	equal(t, "no", reverse(t, l, 1, 9), 4)
	refused(t, l, "again", func() (int, api.Errno) { return l.Reverse(1, 9) }, api.ErrState)
	refused(t, l, "before", func() (int, api.Errno) { return l.Post(8, lines("a b", 1, -1)) }, api.ErrState)
	equal(t, "reverses", fmt.Sprint(l.Records()[2].Reverses, l.Records()[3].Reverses, l.Records()[2].Postings),
		"2 1 [{b -5} {b -6} {a 7} {c 4}]")
	trial, e := l.Trial(9)
	same(t, "trial", len(trial), e, 0, api.OK)
}

// rich is a ledger in which a has 2^50 cents and b lacks as many; its first
// entry took 5 from a and gave them to b.
func rich(t *testing.T) *accounts.Ledger {
	t.Helper()
	l := open(t, "a b c")
	post(t, l, 1, lines("a b", -5, 5)...)
	for range 127 {
		post(t, l, 1, full("a", "b")...)
	}
	for range 7 {
		post(t, l, 1, lines("a b", api.MaxCents, -api.MaxCents)...)
	}
	post(t, l, 1, lines("a b", api.MaxCents, -api.MaxCents)...)
	post(t, l, 1, lines("a b", 5, -5)...)
	balance, e := l.Balance("a", 1)
	same(t, "a", balance, e, api.MaxAmount, api.OK)
	balance, e = l.Balance("b", 1)
	same(t, "b", balance, e, -api.MaxAmount, api.OK)
	return l
}

// P7.5: balances can be from -2^50 to 2^50, behind an entry; within it, they
// play no part.
func TestPostRange(t *testing.T) {
	l := rich(t)
	for _, postings := range [][]api.Posting{
		lines("a b", 1, -1), lines("a c", 1, -1), lines("c b", 1, -1), lines("c a", -api.MaxCents, api.MaxCents),
		lines("a a c", 5, -4, -1), lines("b c b", 5, 1, -6), lines("a b c", -1, -1, 2),
	} {
		refused(t, l, postings, func() (int, api.Errno) { return l.Post(1, postings) }, api.ErrRange)
	}
	refused(t, l, "a sum", func() (int, api.Errno) { return l.Post(1, lines("a c", 1, 1)) }, api.ErrSum)
	refused(t, l, "no account", func() (int, api.Errno) { return l.Post(1, lines("a x", 1, -1)) }, api.ErrNone)
	refused(t, l, "the first one back", func() (int, api.Errno) { return l.Reverse(1, 1) }, api.ErrRange)
	refused(t, l, "a day before", func() (int, api.Errno) { return l.Reverse(1, 0) }, api.ErrState)
	post(t, l, 1, full("a", "a")...)
	post(t, l, 1, lines("a a b b", 1, -1, -1, 1)...)
	post(t, l, 1, lines("a b", -4, 4)...)
	refused(t, l, "the first one back", func() (int, api.Errno) { return l.Reverse(1, 1) }, api.ErrRange)
	post(t, l, 2, lines("a b", -1, 1)...)
	reverse(t, l, 1, 2)
	balance, e := l.Balance("a", 2)
	same(t, "a", balance, e, api.MaxAmount, api.OK)
	// What was earlier does not count: all entries do.
	refused(t, l, "later", func() (int, api.Errno) { return l.Post(api.MaxDay, lines("a c", 1, -1)) }, api.ErrRange)
}

// P7.5: a ledger has room for MaxRecords entries; ErrFull comes last.
func TestFullLedger(t *testing.T) {
	l := rich(t)
	for n := len(l.Records()); n < api.MaxRecords; n++ {
		equal(t, "no", post(t, l, 1, lines("a c b", -2, 1, 1)...), n+1)
	}
	last, e := l.Reverse(api.MaxRecords, 1)
	same(t, "reverse", last, e, 0, api.ErrFull)
	for _, c := range []struct {
		postings []api.Posting
		want     api.Errno
	}{
		{lines("a b", -1, 1), api.ErrFull}, {lines("a b", -1, 2), api.ErrSum}, {lines("a b", -1, 0), api.ErrArg},
		{full("a", "b"), api.ErrRange},
	} {
		no, e := l.Post(1, c.postings)
		same(t, c.postings, no, e, 0, c.want)
	}
	no, e := l.Reverse(2, 0)
	same(t, "before", no, e, 0, api.ErrState)
	records := l.Records()
	equal(t, "records", len(records), api.MaxRecords)
	equal(t, "verify", accounts.Verify(records), api.MaxRecords)
	balance, _ := l.Balance("a", 1)
	equal(t, "a", balance, api.MaxAmount-2*(api.MaxRecords-137))
	no, e = l.Copy().Post(1, lines("a b", -1, 1))
	same(t, "the copy", no, e, 0, api.ErrFull)

	// An entry that reverses is refused for its range before it is for the room.
	m := rich(t)
	for range api.MaxRecords - 137 {
		post(t, m, 1, lines("c c", 1, -1)...)
	}
	no, e = m.Reverse(1, 1)
	same(t, "range", no, e, 0, api.ErrRange)
	no, e = m.Reverse(2, 1)
	same(t, "full", no, e, 0, api.ErrFull)
}

// P7.6: the errors of looking, in their order.
func TestLookingErrors(t *testing.T) {
	l := open(t, "a b")
	post(t, l, 3, lines("a b", 5, -5)...)
	for _, account := range append(notNames, "x", "c") {
		for _, day := range append(notDays, 3) {
			got, e := l.Balance(account, day)
			same(t, account, got, e, 0, api.ErrNone)
			ahead, rows, e := l.Statement(account, day, day-1)
			same(t, account, ahead, e, 0, api.ErrNone)
			equal(t, account, len(rows), 0)
		}
	}
	for _, day := range notDays {
		got, e := l.Balance("a", day)
		same(t, day, got, e, 0, api.ErrArg)
		trial, e := l.Trial(day)
		same(t, day, len(trial), e, 0, api.ErrArg)
		for _, span := range [][2]int{{day, day}, {day, api.MaxDay}, {0, day}, {day, 0}, {api.MaxDay, day}} {
			ahead, rows, e := l.Statement("a", span[0], span[1])
			same(t, span, ahead, e, 0, api.ErrArg)
			equal(t, span, len(rows), 0)
		}
	}
	for _, span := range [][2]int{{1, 0}, {4, 3}, {api.MaxDay, api.MaxDay - 1}, {api.MaxDay, 0}} {
		ahead, rows, e := l.Statement("a", span[0], span[1])
		same(t, span, ahead, e, 0, api.ErrArg)
		equal(t, span, len(rows), 0)
	}
}

// Rule 4 of the document: no call changes its arguments or keeps them, and
// what it answers shares no memory with the ledger or with itself.
func TestMemory(t *testing.T) {
	l := open(t, "a b")
	postings := append(make([]api.Posting, 0, 8), lines("a b", 5, -5)...)
	post(t, l, 0, postings...)
	no, e := l.Post(0, postings)
	same(t, "post", no, e, 2, api.OK)
	reverse(t, l, 2, 1)
	before := picture(l)
	postings[0] = line("b", 7)
	_ = append(postings, line("b", 9))
	equal(t, "the ledger", picture(l), before)

	records := l.Records()
	for i, r := range records {
		rest := fmt.Sprint(records[i+1:])
		_ = append(r.Postings, line("b", 77))
		r.Postings[0], r.Postings[1] = line("x", 1), line("y", 2)
		equal(t, "the other records", records[i+1:], rest)
		records[i] = api.Record{}
	}
	_ = append(records, api.Record{No: 9})
	_, rows, _ := l.Statement("a", 0, 9)
	rows[0] = api.Row{}
	trial, _ := l.Trial(0)
	trial[0] = api.Posting{}
	equal(t, "the ledger", picture(l), before)

	c := l.Copy()
	c.Records()[0].Postings[0] = line("x", 1)
	equal(t, "the copy", picture(c), before)
	equal(t, "the ledger", picture(l), before)
}

// P7.6: a copy is independent of the ledger, its accounts too.
func TestCopy(t *testing.T) {
	l := open(t, "a b")
	post(t, l, 0, lines("a b", 5, -5)...)
	c := l.Copy()
	before := picture(l)
	equal(t, "the copy", picture(c), before)
	busy := func(l *accounts.Ledger) {
		ok(t, l.Open("new"))
		equal(t, "no", post(t, l, 1, lines("a new", 7, -7)...), 2)
		equal(t, "no", reverse(t, l, 1, 2), 3)
	}
	busy(c)
	equal(t, "the ledger", picture(l), before)
	after := picture(c)
	busy(l)
	equal(t, "the ledger", picture(l), after)
	d := c.Copy()
	post(t, l, 3, lines("a b", 1, -1)...)
	post(t, c, 3, lines("a b", 2, -2)...)
	equal(t, "the copy of the copy", picture(d), after)
	equal(t, "last", []any{l.Records()[3].Postings, c.Records()[3].Postings}, "[[{a 1} {b -1}] [{a 2} {b -2}]]")
}

// Rule 3 and P7.6: of a nil or a zero Ledger.
func TestNoLedger(t *testing.T) {
	for _, l := range []*accounts.Ledger{nil, {}} {
		for range 2 {
			if l.Copy() != nil || l.Records() != nil {
				t.Error("a copy or records of no ledger")
			}
			no, e1 := l.Post(-1, nil)
			back, e2 := l.Reverse(0, -1)
			balance, e3 := l.Balance("", -1)
			ahead, rows, e4 := l.Statement("a", 1, 0)
			trial, e5 := l.Trial(-1)
			equal(t, "results", []any{no, back, balance, ahead, len(rows), len(trial)}, "[0 0 0 0 0 0]")
			for i, e := range []api.Errno{e1, e2, e3, e4, e5, l.Open(""), l.Open("a")} {
				equal(t, i, e, api.ErrNil)
			}
		}
	}
}
