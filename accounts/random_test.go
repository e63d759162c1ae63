package accounts_test

import (
	"fmt"
	"math/rand/v2"
	"slices"
	"testing"

	"merino/accounts"
	"merino/api"
)

// life is a ledger with what it must be.
type life struct {
	ledger *accounts.Ledger
	model  *model
}

// newLife is a ledger with some accounts; in every third one, a and b are
// about as far from 0 as they can be.
func newLife(t *testing.T, d *rand.Rand) *life {
	t.Helper()
	l := &life{accounts.New(), &model{}}
	for _, name := range looked[:2+d.IntN(4)] {
		ok(t, l.ledger.Open(name), l.model.open(name))
	}
	if d.IntN(3) == 0 {
		l.post(t, 0, full("b", "a")) // to reverse it, there is no room soon
		for range 128 {
			l.post(t, 0, full("a", "b"))
		}
	}
	return l
}

// post posts an entry and compares what came of it.
func (l *life) post(t *testing.T, day int, postings []api.Posting) api.Errno {
	t.Helper()
	want, wantErr := l.model.post(day, postings)
	passed := fmt.Sprint(postings)
	no, e := l.ledger.Post(day, postings)
	same(t, []any{day, postings}, no, e, want, wantErr)
	equal(t, "the postings", postings, passed)
	return wantErr
}

// step carries out something, and compares what came of it.
func (l *life) step(t *testing.T, d *rand.Rand) string {
	t.Helper()
	switch d.IntN(12) {
	case 0:
		name := looked[d.IntN(len(looked))]
		if d.IntN(3) == 0 {
			name = notNames[d.IntN(len(notNames))]
		}
		want := l.model.open(name)
		same(t, name, 0, l.ledger.Open(name), 0, want)
		return fmt.Sprint("open ", want)
	case 1, 2, 3:
		no, day := d.IntN(len(l.model.records)+3)-1, l.model.anyDay(d)
		switch d.IntN(12) {
		case 0:
			no = hostile[d.IntN(len(hostile))]
		case 1, 2, 3:
			no = 1
		}
		want, wantErr := l.model.reverse(no, day)
		got, e := l.ledger.Reverse(no, day)
		same(t, []any{"reverse", no, day}, got, e, want, wantErr)
		return fmt.Sprint("reverse ", wantErr)
	case 4:
		// An entry that fills up what room a and b have.
		return fmt.Sprint("post ", l.post(t, l.model.anyDay(d), full("a", "b")))
	}
	return fmt.Sprint("post ", l.post(t, l.model.anyDay(d), l.model.anyPostings(d)))
}

// P7.5 to P7.7 and P7.10: a ledger does what the words of the chapter say, what
// is refused changes nothing, and Verify accepts all entries. The random
// ledgers reach every answer but those of full ledgers.
func TestModel(t *testing.T) {
	seen := map[string]bool{}
	for seed := range uint64(60) {
		d := dice(100 + seed)
		l := newLife(t, d)
		for i := range 80 {
			seen[l.step(t, d)] = true
			if i%8 > 0 && len(l.model.records) > 100 {
				continue // to look at all of it takes long
			}
			if got, want := picture(l.ledger), l.model.picture(); got != want {
				t.Fatalf("the ledger is %s; want %s", got, want)
			}
		}
		equal(t, "verify", accounts.Verify(l.ledger.Records()), len(l.model.records))
	}
	for _, want := range []string{
		"open 0", "open 2", "open 8", "post 0", "post 2", "post 3", "post 4", "post 7", "post 10", "post 17",
		"reverse 0", "reverse 2", "reverse 4", "reverse 7", "reverse 10",
	} {
		if !seen[want] {
			t.Error("never reached: ", want)
		}
	}
}

// P7.6: a copy is as the ledger is, and what is done to one of the two plays
// no part in the other one.
func TestCopiesLiveOn(t *testing.T) {
	for seed := range uint64(60) {
		d := dice(300 + seed)
		l := newLife(t, d)
		for range d.IntN(30) {
			l.step(t, d)
		}
		lives := []*life{l, {l.ledger.Copy(), l.model.clone()}, {l.ledger.Copy(), l.model.clone()}}
		for range 60 {
			lives[d.IntN(len(lives))].step(t, d)
		}
		for i, l := range lives {
			if got, want := picture(l.ledger), l.model.picture(); got != want {
				t.Fatalf("%d: the ledger is %s; want %s", i, got, want)
			}
		}
	}
}

// P7.9: the balances sum to 0 on every day, and a statement leads from its
// first balance to that on its last day.
func TestTheBooksBalance(t *testing.T) {
	for seed := range uint64(60) {
		d := dice(500 + seed)
		l := newLife(t, d)
		for range 60 {
			l.step(t, d)
		}
		for i, day := range days {
			all, ofTrial := 0, 0
			for _, account := range l.model.accounts {
				balance, e := l.ledger.Balance(account, day)
				ok(t, e)
				all += balance
				for _, from := range days[:i+1] {
					ahead, rows, e := l.ledger.Statement(account, from, day)
					ok(t, e)
					for _, r := range rows {
						ahead += r.Cents
						equal(t, r, r.Balance, ahead)
					}
					equal(t, "the last balance", ahead, balance)
				}
			}
			trial, e := l.ledger.Trial(day)
			ok(t, e)
			for _, p := range trial {
				ofTrial += p.Cents
			}
			equal(t, day, []int{all, ofTrial}, []int{0, 0})
		}
	}
}

// P7.9: behind a Reverse every balance is, from its day on, what it would be
// without both entries, and before it what it was.
func TestReversed(t *testing.T) {
	reversed := 0
	for seed := range uint64(60) {
		d := dice(700 + seed)
		l := newLife(t, d)
		for range 60 {
			before := l.ledger.Copy()
			l.step(t, d)
			records := l.ledger.Records()
			n := len(records)
			if n == 0 || n == len(before.Records()) || records[n-1].Reverses == 0 {
				continue
			}
			reversed++
			last := records[n-1]
			without := slices.Delete(slices.Clone(records[:n-1]), last.Reverses-1, last.Reverses)
			for _, day := range days {
				now, _ := l.ledger.Trial(day)
				then, _ := before.Trial(day)
				if day < last.Day {
					equal(t, day, now, then)
					continue
				}
				equal(t, day, balances([]api.Record{{Postings: now}}), balances(without))
			}
		}
	}
	if reversed < 100 {
		t.Error(reversed, "entries were reversed")
	}
}
