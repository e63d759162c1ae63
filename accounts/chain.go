package accounts

import (
	"slices"
	"sort"

	"merino/api"
)

// chain keeps entries, which never change once they are in it: their days
// ascend, and each carries a checksum of itself and of the one before.
type chain struct{ records []api.Record }

// Verify returns how many records, from the first on, are a chain.
func Verify(records []api.Record) int {
	before := uint64(0)
	for i, r := range records {
		if r.No != i+1 || r.Sum != checksum(before, r) {
			return i
		}
		before = r.Sum
	}
	return len(records)
}

// link puts an entry at the end, and returns its number.
func (c *chain) link(day int, postings []api.Posting, reverses int) int {
	r := api.Record{No: len(c.records) + 1, Day: day, Postings: postings, Reverses: reverses}
	before := uint64(0)
	if last := c.last(); last != nil {
		before = last.Sum
	}
	r.Sum = checksum(before, r)
	c.records = append(c.records, r)
	return r.No
}

// last returns the last entry, or nil.
func (c *chain) last() *api.Record { return c.find(len(c.records)) }

// find returns the entry of this number, or nil.
func (c *chain) find(no int) *api.Record {
	if no < 1 || no > len(c.records) {
		return nil
	}
	return &c.records[no-1]
}

// isReversed reports whether an entry reverses the one of this number.
func (c *chain) isReversed(no int) bool {
	return slices.ContainsFunc(c.records, func(r api.Record) bool { return r.Reverses == no })
}

// isFull reports whether there is no room for another entry.
func (c *chain) isFull() bool { return len(c.records) == api.MaxRecords }

// until returns the entries with a day of at most day; they are not to be
// changed.
func (c *chain) until(day int) []api.Record {
	n := sort.Search(len(c.records), func(i int) bool { return c.records[i].Day > day })
	return c.records[:n]
}

// copies returns copies of all entries.
func (c *chain) copies() []api.Record {
	list := slices.Clone(c.records)
	for i, r := range list {
		list[i].Postings = slices.Clone(r.Postings)
	}
	return list
}

// fork returns a chain of the same entries, to which others can be linked.
func (c *chain) fork() chain { return chain{slices.Clone(c.records)} }

// hash is the state of a 64-bit FNV-1a hash.
type hash uint64

const (
	hashStart hash = 14695981039346656037
	hashPrime hash = 1099511628211
)

// checksum returns the Sum of a record, from that of the record before.
func checksum(before uint64, r api.Record) uint64 {
	h := hashStart
	h.number(before)
	h.number(uint64(r.No))
	h.number(uint64(r.Day))
	h.number(uint64(r.Reverses))
	for _, p := range r.Postings {
		h.add(byte(len(p.Account)))
		for i := range len(p.Account) {
			h.add(p.Account[i])
		}
		h.number(uint64(p.Cents))
	}
	return uint64(h)
}

// add takes in a byte.
func (h *hash) add(b byte) { *h = (*h ^ hash(b)) * hashPrime }

// number takes in a number, the lowest byte first.
func (h *hash) number(n uint64) {
	for range 8 {
		h.add(byte(n))
		n >>= 8
	}
}
