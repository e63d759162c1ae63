package accounts_test

import (
	"math"
	"slices"
	"strings"
	"testing"

	"merino/accounts"
	"merino/api"
)

// chained is records with the Sums that the chapter asks for.
func chained(records ...api.Record) []api.Record {
	before := uint64(0)
	for i := range records {
		records[i].Sum = sum(before, records[i])
		before = records[i].Sum
	}
	return records
}

// P7.7: the Sums of a few entries, as a program in another language finds them.
func TestSums(t *testing.T) {
	l := open(t, "a b-zed")
	post(t, l, 0, lines("a b-zed", 1, -1)...)
	post(t, l, 300, lines("b-zed a a", -api.MaxCents, 7, api.MaxCents-7)...)
	reverse(t, l, 1, api.MaxDay)
	for i, want := range []uint64{0x92a8aa80f3fa9d96, 0x6adb0c6de55d8a3a, 0x973adce27991fade} {
		equal(t, i+1, l.Records()[i].Sum, want)
	}
}

// P7.7: Verify counts records to the first that does not follow, whatever
// stands in them.
func TestVerify(t *testing.T) {
	equal(t, "none", accounts.Verify(nil), 0)
	var records []api.Record
	for i := range 300 {
		records = append(records, api.Record{No: i + 1, Day: i * (1 - i%3), Reverses: i % 4})
	}
	records[0].Postings = []api.Posting{line("", 0)}
	records[1].Postings = lines("a b c", math.MinInt, math.MaxInt, -1)
	records[2].Day, records[2].Reverses = math.MinInt, math.MaxInt
	for i, n := range []int{16, 17, 254, 255, 256, 257, 300, 511, 512, 70000} {
		records[10+i].Postings = []api.Posting{line(strings.Repeat("x", n), n), line("\x00\xffä", -n)}
	}
	records = chained(records...)
	equal(t, "all", accounts.Verify(records), 300)
	for i := range records {
		equal(t, "the first", accounts.Verify(records[:i]), i)
		for _, no := range []int{i, i + 2, -i - 1, math.MinInt} {
			bad := slices.Clone(records)
			bad[i].No = no
			// The Sums follow, but the number does not.
			equal(t, no, accounts.Verify(chained(bad...)), i)
		}
		for _, bit := range []int{0, 7, 31, 63} {
			bad := slices.Clone(records)
			bad[i].Sum ^= 1 << bit
			equal(t, bit, accounts.Verify(bad), i)
		}
		equal(t, "one is gone", accounts.Verify(slices.Delete(slices.Clone(records), i, i+1)), min(i, 299))
		if i > 0 {
			equal(t, "without the first", accounts.Verify(records[i:]), 0)
			bad := slices.Clone(records)
			bad[i-1], bad[i] = bad[i], bad[i-1]
			equal(t, "changed places", accounts.Verify(bad), i-1)
		}
	}
	equal(t, "zero", accounts.Verify(make([]api.Record, 3)), 0)
}

// P7.10: a byte of a field other than Sum is changed, in each record of a
// ledger in turn: Verify goes no further.
func TestVerifyFindsWhatIsChanged(t *testing.T) {
	for seed := range uint64(12) {
		d := dice(900 + seed)
		l := newLife(t, d)
		for range 40 {
			l.step(t, d)
		}
		records := l.ledger.Records()
		equal(t, "verify", accounts.Verify(records), len(records))
		for i := range records {
			try := func(change func(r *api.Record)) {
				t.Helper()
				bad := slices.Clone(records)
				bad[i].Postings = slices.Clone(bad[i].Postings)
				change(&bad[i])
				equal(t, bad[i], accounts.Verify(bad), i)
			}
			flips := func() int { return (1 + d.IntN(255)) << (8 * d.IntN(8)) }
			try(func(r *api.Record) { r.No ^= flips() })
			try(func(r *api.Record) { r.Day ^= flips() })
			try(func(r *api.Record) { r.Reverses ^= flips() })
			for k := range records[i].Postings {
				try(func(r *api.Record) { r.Postings[k].Cents ^= flips() })
				try(func(r *api.Record) {
					account := []byte(r.Postings[k].Account)
					account[d.IntN(len(account))] ^= byte(1 + d.IntN(255))
					r.Postings[k].Account = string(account)
				})
			}
		}
	}
}

// Rule 4 of the document: Verify changes no record.
func TestVerifyMemory(t *testing.T) {
	l := open(t, "a b")
	post(t, l, 0, lines("a b", 1, -1)...)
	post(t, l, 0, lines("a b", 2, -2)...)
	records := l.Records()
	records[1].Sum++
	equal(t, "verify", accounts.Verify(records), 1)
	records[1].Sum--
	equal(t, "records", records, l.Records())
}
