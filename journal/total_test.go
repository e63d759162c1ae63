package journal_test

import (
	"fmt"
	"slices"
	"testing"

	"merino/api"
	"merino/journal"
)

// answers calls every function of the package with arguments made of a, b and
// c, and returns what they answer.
func answers(t *testing.T, a, b, c int) []string {
	var told []string
	say := func(results ...any) { told = append(told, fmt.Sprint(results...)) }
	made, e := journal.NewDisk(a)
	say(made != nil, e)
	used := newDisk(t, []sector{filled(1), {}, filled(byte(a)), {}, {}, filled(byte(b)), {}, {}})
	s := filled(byte(c))
	for _, d := range []*journal.Disk{nil, {}, made, used} {
		say(d.Sectors(), d.Writes(), d.Copy() == nil)
		data, e := d.Read(a)
		say(data, e)
		say(d.Write(a, s[:]), d.Write(b, s[:]), d.Write(c, s[:]), d.Write(1, s[:max(0, min(a, 64))]))
		l, e := journal.Open(d.Copy())
		say(picture(l), e)
		say(d.Sync(), d.Fuse(a), d.Sync(), d.Fuse(b), d.Write(0, s[:]), d.Sync(), d.Write(c, s[:]))
		for _, d := range []*journal.Disk{d, d.Copy()} {
			say(d.Crash([]int{a, b, c, a}), d.Crash(make([]int, max(0, min(c, 5000)))), d.Fuse(c))
			l, e := journal.Open(d)
			say(picture(l), e)
			say(l.Append(make([]byte, max(0, min(a, 1<<16)))), l.Append(s[:]), l.Commit(), picture(l))
			say(l.Checkpoint(make([]byte, max(0, min(b, 1<<16)))), l.Checkpoint(s[:5]), picture(l))
		}
	}
	return told
}

// P1 and P2 of the document: every call ends without a panic, whatever its
// arguments, and answers the same when it is made again.
func TestEveryCallAnswers(t *testing.T) {
	for i, a := range hostile {
		for j, b := range hostile {
			c := hostile[(i+5*j)%len(hostile)]
			if first := answers(t, a, b, c); !slices.Equal(first, answers(t, a, b, c)) {
				t.Error(a, b, c, first)
			}
		}
	}
}

// P2: a copy of a disk goes on as the disk does, and neither changes the other.
func TestCopyGoesOn(t *testing.T) {
	for seed := range uint64(60) {
		r := dice(60000 + seed)
		w := newLife(r)
		d := newDisk(t, w.start)
		l := open(t, d)
		at := r.IntN(len(w.calls) + 1)
		for _, call := range w.calls[:at] {
			ok(t, call(l))
		}
		other := d.Copy()
		before := imageOf(t, other)
		m := open(t, d)
		for _, call := range w.calls[at:] {
			call(m)
		}
		sameImage(t, "the copy", other, before)
		n := open(t, other)
		for _, call := range w.calls[at:] {
			call(n)
		}
		equal(t, seed, picture(n), picture(m))
		sameImage(t, "the copy goes on", other, imageOf(t, d))
		ok(t, d.Fuse(0))
		equal(t, "the fuse", []api.Errno{d.Sync(), other.Sync()}, []api.Errno{api.ErrDisk, api.OK})
	}
}
