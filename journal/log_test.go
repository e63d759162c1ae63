package journal_test

import (
	"math"
	"math/rand/v2"
	"slices"
	"strings"
	"testing"

	"merino/api"
	"merino/journal"
)

// add appends records to a log.
func add(t *testing.T, l *journal.Log, records ...string) {
	t.Helper()
	for _, r := range records {
		ok(t, l.Append([]byte(r)))
	}
}

// commit commits these records.
func commit(t *testing.T, l *journal.Log, records ...string) {
	t.Helper()
	add(t, l, records...)
	ok(t, l.Commit())
}

// Example 1 of the chapter.
func TestFirstExample(t *testing.T) {
	d := newDisk(t, make([]sector, 8))
	l := open(t, d)
	first, _ := d.Read(0)
	equal(t, "sector 0", first[10:17], []byte{6, 1, 0, 0, 3, 0, 0})
	equal(t, "room", l.Room(), 3)
	commit(t, l, text(40, "a"))
	second, _ := d.Read(1)
	equal(t, "one sector", []int{l.Room(), int(second[10])}, []int{2, 46})
	commit(t, l, text(60, "b"))
	third, _ := d.Read(2)
	fourth, _ := d.Read(3)
	equal(t, "two sectors", []int{l.Room(), int(third[10]), int(fourth[10])}, []int{0, 49, 17})
	add(t, l, "")
	equal(t, "no space", []any{l.Commit(), l.Pending()}, []any{api.ErrSpace, 1})
	l = open(t, d)
	equal(t, "opened again", contentOf(l), contentOf(open(t, d.Copy())))
	equal(t, "records", []int{len(l.Records()), l.Pending()}, []int{2, 0})
	ok(t, l.Checkpoint([]byte(text(10, "s"))))
	equal(t, "checkpoint", picture(l), `2 3 0 "ssssssssss" []`)
}

// Example 2 of the chapter.
func TestSecondExample(t *testing.T) {
	for keep, want := range map[int]int{64: 1, 40: 0, 0: 0} {
		d := newDisk(t, make([]sector, 8))
		l := open(t, d)
		ok(t, d.Fuse(1))
		add(t, l, text(40, "\x07"))
		writes := d.Writes()
		equal(t, "commit", l.Commit(), api.ErrDisk)
		equal(t, "writes", d.Writes(), writes+1)
		ok(t, d.Crash([]int{keep}))
		records := open(t, d).Records()
		equal(t, keep, len(records), want)
		if want > 0 {
			equal(t, keep, string(records[0]), text(40, "\x07"))
		}
	}
}

// P9.4: a record of at most 1024 bytes, and at most 64 of them.
func TestAppend(t *testing.T) {
	d := newDisk(t, make([]sector, 512))
	l := open(t, d)
	writes := d.Writes()
	equal(t, "too long", l.Append(make([]byte, 1025)), api.ErrLimit)
	ok(t, l.Append(make([]byte, 1024)), l.Append(nil))
	for range 62 {
		add(t, l, "r")
	}
	equal(t, "full", []any{l.Append(nil), l.Append(make([]byte, 1025)), l.Pending()}, []any{api.ErrFull, api.ErrLimit, 64})
	equal(t, "nothing is a record yet", []int{len(l.Records()), d.Writes() - writes}, []int{0, 0})
	ok(t, l.Commit())
	equal(t, "committed", []int{len(l.Records()), l.Pending(), len(l.Records()[0]), len(l.Records()[1])}, []int{64, 0, 1024, 0})
	for range 64 {
		add(t, l, "s")
	}
	equal(t, "full again", l.Append(nil), api.ErrFull)
	ok(t, l.Commit())
	equal(t, "opened", contentOf(open(t, d)), contentOf(l))
}

// P9.4: without pending records Commit writes nothing; without space neither.
func TestCommit(t *testing.T) {
	d := newDisk(t, make([]sector, 8))
	l := open(t, d)
	ok(t, d.Fuse(0), l.Commit())
	ok(t, d.Crash(nil))
	writes := d.Writes()
	add(t, l, text(3*49-5, "r"))
	before := picture(l)
	for range 2 {
		equal(t, "a byte too many", []any{l.Commit(), picture(l), d.Writes()}, []any{api.ErrSpace, before, writes})
	}
	l = open(t, d) // what was pending is gone
	commit(t, l, text(3*49-6, "r"))
	equal(t, "as much as there is", []int{l.Room(), d.Writes() - writes}, []int{0, 3})
	ok(t, l.Commit())
	full := newDisk(t, make([]sector, 512))
	l = open(t, full)
	for range 64 {
		add(t, l, text(1024, "r"))
	}
	equal(t, "more than a half has", []any{l.Commit(), full.Writes(), l.Pending()}, []any{api.ErrSpace, 512 + 1, 64})
}

// P9.5: Checkpoint, and its errors in their order.
func TestCheckpoint(t *testing.T) {
	d := newDisk(t, make([]sector, 8))
	l := open(t, d)
	commit(t, l, "r")
	equal(t, "too long for the disk", l.Checkpoint(make([]byte, 4*49-5)), api.ErrSpace)
	equal(t, "too long", l.Checkpoint(make([]byte, 8193)), api.ErrLimit)
	equal(t, "as long as can be", l.Checkpoint(make([]byte, 8192)), api.ErrSpace)
	add(t, l, "s")
	equal(t, "pending", []any{l.Checkpoint(nil), l.Checkpoint(make([]byte, 8193)), picture(l)},
		[]any{api.ErrState, api.ErrState, `1 2 1 "" ["r"]`})
	ok(t, l.Commit(), l.Checkpoint(make([]byte, 4*49-6)))
	equal(t, "a whole half", []int{l.Generation(), l.Room(), len(l.State()), len(l.Records())}, []int{2, 0, 190, 0})
	add(t, l, "")
	equal(t, "no space", l.Commit(), api.ErrSpace)
	l = open(t, d)
	for g := 3; g < 9; g++ {
		ok(t, l.Checkpoint([]byte{byte(g)}))
		equal(t, g, picture(l), picture(open(t, d)))
	}
	l = open(t, newDisk(t, make([]sector, 512)))
	ok(t, l.Checkpoint([]byte(text(8192, "s"))))
	equal(t, "the longest state", []any{string(l.State()), l.Room()}, []any{text(8192, "s"), 256 - 168})
}

// P9.5: there is no generation behind 2^32 - 1.
func TestLastGeneration(t *testing.T) {
	stream := frame(1, "") + frame(3, "")
	d := newDisk(t, image(0, "", math.MaxUint32-1, stream))
	l := open(t, d)
	ok(t, l.Checkpoint([]byte("last")))
	equal(t, "last", picture(l), `4294967295 3 0 "last" []`)
	before := picture(l)
	equal(t, "full", []any{l.Checkpoint(nil), l.Checkpoint(make([]byte, 8192)), l.Checkpoint(make([]byte, 8193))},
		[]any{api.ErrFull, api.ErrFull, api.ErrLimit})
	add(t, l, "r")
	equal(t, "pending", l.Checkpoint(nil), api.ErrState)
	ok(t, l.Commit())
	equal(t, "opened", picture(open(t, d)), strings.Replace(before, `3 0 "last" []`, `2 0 "last" ["r"]`, 1))
}

// P9.6: a log that returned ErrDisk returns it from then on, ahead of every
// other error, and shows what it showed before; with power too.
func TestFailedLog(t *testing.T) {
	for n := range 5 {
		for what, call := range map[string]func(l *journal.Log) api.Errno{
			"commit":     func(l *journal.Log) api.Errno { return l.Commit() },
			"checkpoint": func(l *journal.Log) api.Errno { return l.Checkpoint([]byte(text(150, "s"))) },
		} {
			d := newDisk(t, make([]sector, 16))
			l := open(t, d)
			ok(t, l.Checkpoint([]byte("state")))
			commit(t, l, "a", "b")
			if what == "commit" {
				add(t, l, text(150, "r"), "")
			}
			before := picture(l)
			ok(t, d.Fuse(n))
			equal(t, what, call(l), api.ErrDisk)
			for range 2 {
				equal(t, what, picture(l), before)
				equal(t, what, []api.Errno{l.Commit(), l.Checkpoint(nil), l.Checkpoint(make([]byte, 8193)), l.Append(nil), l.Append(make([]byte, 1025))},
					slices.Repeat([]api.Errno{api.ErrDisk}, 5))
				ok(t, d.Crash(nil))
			}
			equal(t, what, picture(open(t, d)), strings.Replace(before, "6 2 ", "6 0 ", 1))
		}
	}
}

// P9.4, P9.6: while no call has returned ErrDisk, one that writes nothing needs
// no power, and other errors come first.
func TestLogWithoutPower(t *testing.T) {
	d := newDisk(t, make([]sector, 8))
	l := open(t, d)
	ok(t, d.Fuse(0))
	equal(t, "cut", d.Sync(), api.ErrDisk)
	ok(t, l.Commit())
	equal(t, "checkpoint", []api.Errno{l.Checkpoint(make([]byte, 8193)), l.Checkpoint(make([]byte, 191))}, []api.Errno{api.ErrLimit, api.ErrSpace})
	add(t, l, text(150, "r"))
	equal(t, "commit", []any{l.Commit(), l.Checkpoint(nil), l.Append(nil)}, []any{api.ErrSpace, api.ErrState, api.OK})
	equal(t, "picture", picture(l), `1 3 2 "" []`)
	l = open(t, newDisk(t, make([]sector, 8)))
	add(t, l, "r")
	equal(t, "another disk", l.Commit(), api.OK)
}

// Rule 3: a nil log, and a zero one.
func TestNoLog(t *testing.T) {
	for _, l := range []*journal.Log{nil, {}} {
		equal(t, "errors", []api.Errno{l.Append(nil), l.Append(make([]byte, 1025)), l.Commit(), l.Checkpoint(nil), l.Checkpoint(make([]byte, 8193))},
			slices.Repeat([]api.Errno{api.ErrNil}, 5))
		equal(t, "results", picture(l), `0 0 0 "" []`)
	}
}

// P9.6 and rule 4: no argument is kept, and results are copies.
func TestLogMemory(t *testing.T) {
	l := open(t, newDisk(t, make([]sector, 8)))
	state, record := []byte("state"), []byte("record")
	ok(t, l.Checkpoint(state), l.Append(record))
	copy(state, "xxxxx")
	copy(record, "xxxxxx")
	ok(t, l.Commit())
	commit(t, l, "more")
	want := `2 1 0 "state" ["record" "more"]`
	equal(t, "no argument is kept", picture(l), want)
	shown, records := l.State(), l.Records()
	copy(shown, "xxxxx")
	copy(records[0], "xxxxxx")
	_ = append(records[0], "yyyy"...)
	records[1] = nil
	_ = append(records[:1], nil)
	equal(t, "results are copies", picture(l), want)
	l = open(t, newDisk(t, image(1, frame(1, "s")+frame(2, "a")+frame(2, "b")+frame(3, ""), 0, "")))
	_ = append(l.State(), "xxxxxxxx"...)
	_ = append(l.Records()[0], "xxxxxxxx"...)
	equal(t, "of an opened log too", picture(l), `1 3 0 "s" ["a" "b"]`)
}

// anyCall is a call of a log with what it must lead to.
func anyCall(r *rand.Rand, s shelf) (func(l *journal.Log) api.Errno, shelf, []put, api.Errno) {
	data := text(r.IntN(120)*r.IntN(2), string([]byte{byte(r.IntN(256))}))
	switch r.IntN(8) {
	case 0, 1:
		next, puts, e := s.checkpoint(data)
		return func(l *journal.Log) api.Errno { return l.Checkpoint([]byte(data)) }, next, puts, e
	case 2, 3, 4:
		next, puts, e := s.commit()
		return func(l *journal.Log) api.Errno { return l.Commit() }, next, puts, e
	case 5:
		if s.half() > 16 {
			data = text(1020+r.IntN(8), "r")
		}
	}
	next, e := s.add(data)
	return func(l *journal.Log) api.Errno { return l.Append([]byte(data)) }, next, nil, e
}

// goodCall is a call that succeeds, and does not leave records for which there
// is no space.
func goodCall(r *rand.Rand, s shelf) (func(l *journal.Log) api.Errno, shelf) {
	for {
		call, next, _, e := anyCall(r, s)
		if _, _, stuck := next.commit(); e == api.OK && stuck == api.OK {
			return call, next
		}
	}
}

// P9.4 to P9.6: a log does what the words of the chapter say, and its disk has
// what they say, also when the power is cut at any of its writes.
func TestLogModel(t *testing.T) {
	seen := map[api.Errno]int{}
	for seed := range uint64(300) {
		r := dice(20000 + seed)
		start := make([]sector, []int{4, 8, 16, 64}[r.IntN(4)])
		if r.IntN(3) == 0 {
			g := []uint32{255, 65535, 1<<24 - 1, 1<<32 - 3, 1<<32 - 1}[r.IntN(5)]
			copy(start, streamOf(len(start)/2, g, frame(1, "")+frame(3, ""), full))
		}
		want, _ := opened(start)
		var calls []func(l *journal.Log) api.Errno
		replay := func() (*journal.Disk, *journal.Log) {
			d := newDisk(t, start)
			l := open(t, d)
			for _, call := range calls {
				call(l)
			}
			return d, l
		}
		for range 25 {
			call, next, puts, e := anyCall(r, want)
			_, l := replay()
			equal(t, seed, call(l), e)
			seen[e]++
			equal(t, seed, picture(l), next.picture())
			if e == api.OK {
				logs := map[*journal.Disk]*journal.Log{}
				checkCuts(t, seed, func() *journal.Disk {
					d, l := replay()
					logs[d] = l
					return d
				}, func(d *journal.Disk) api.Errno { return call(logs[d]) }, puts)
			}
			want, calls = next, append(calls, call)
			if t.Failed() {
				t.Fatalf("seed %d", seed)
			}
		}
		d, _ := replay()
		sameImage(t, seed, d, want.image)
		checkOpen(t, seed, want.image)
	}
	for _, e := range []api.Errno{api.OK, api.ErrLimit, api.ErrState, api.ErrSpace, api.ErrFull} {
		if seen[e] == 0 {
			t.Error("no call returned", e)
		}
	}
}
