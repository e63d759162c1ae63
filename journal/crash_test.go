package journal_test

import (
	"math/rand/v2"
	"slices"
	"testing"

	"merino/api"
	"merino/journal"
)

// life is a log on a disk, in calls that may be made again on another disk.
type life struct {
	start []sector
	calls []func(l *journal.Log) api.Errno
	whole []shelf // what the log has behind Open, and behind each of the calls
}

// newLife is a life of random calls.
func newLife(r *rand.Rand) life {
	w := life{start: make([]sector, []int{4, 6, 8, 16}[r.IntN(4)])}
	if r.IntN(3) == 0 {
		// Generations of which only some bytes differ.
		g := []uint32{253, 254, 255, 256, 65534, 65535, 1<<24 - 1, 1<<32 - 4}[r.IntN(8)]
		from := int(1-g%2) * len(w.start) / 2
		copy(w.start[from:], streamOf(len(w.start)/2, g, frame(1, "old")+frame(3, ""), full))
	}
	s, _ := opened(w.start)
	w.whole = []shelf{s}
	for range 30 {
		call, next := goodCall(r, s)
		s = next
		w.calls, w.whole = append(w.calls, call), append(w.whole, s)
	}
	return w
}

// cut lives until the power is cut behind n writes and syncs, and returns the
// disk, and what a log on it may have; false if the power was not cut.
func (w life) cut(t *testing.T, n int) (*journal.Disk, []string, bool) {
	t.Helper()
	d := newDisk(t, w.start)
	ok(t, d.Fuse(n))
	l, e := journal.Open(d)
	if e != api.OK {
		equal(t, n, e, api.ErrDisk)
		return d, []string{w.whole[0].content()}, true
	}
	for i, call := range w.calls {
		if e := call(l); e != api.OK {
			equal(t, n, e, api.ErrDisk)
			equal(t, n, picture(l), w.whole[i].picture())
			return d, []string{w.whole[i].content(), w.whole[i+1].content()}, true
		}
	}
	return d, nil, false
}

// anyKeep is what a crash keeps.
func anyKeep(r *rand.Rand) []int {
	keep := make([]int, r.IntN(12))
	kind := r.IntN(5)
	for k := range keep {
		switch kind {
		case 0:
			keep[k] = 64 * r.IntN(2)
		case 1:
			keep[k] = 55 + r.IntN(10)
		case 2:
			keep[k] = r.IntN(65)
		case 3:
			keep[k] = 64 // but for one
		case 4:
			keep[k] = []int{0, 3, 4, 8, 10, 11, 60, 61, 62, 63, 64}[r.IntN(11)]
		}
	}
	if kind == 3 && len(keep) > 0 {
		keep[r.IntN(len(keep))] = r.IntN(64)
	}
	return keep
}

// recovered crashes a disk and opens it, with the power cut some times more
// while it is opened, and fails the test unless the log has one of these
// contents, and the same when it is opened again.
func recovered(t *testing.T, r *rand.Rand, d *journal.Disk, may []string) *journal.Log {
	t.Helper()
	keep := anyKeep(r)
	ok(t, d.Crash(keep))
	for range r.IntN(4) {
		ok(t, d.Fuse(r.IntN(5)))
		if l, e := journal.Open(d); e != api.OK {
			equal(t, keep, e, api.ErrDisk)
		} else if !slices.Contains(may, contentOf(l)) {
			t.Fatalf("keep %v: the log has %s; may have %v", keep, contentOf(l), may)
		}
		ok(t, d.Crash(anyKeep(r)))
	}
	want, _ := opened(imageOf(t, d))
	l := open(t, d)
	equal(t, keep, picture(l), want.picture())
	if !slices.Contains(may, contentOf(l)) {
		t.Fatalf("keep %v: the log has %s; may have %v", keep, contentOf(l), may)
	}
	writes := d.Writes()
	equal(t, "opened again", []any{picture(open(t, d)), d.Writes()}, []any{want.picture(), writes})
	return l
}

// P9.7, P9.8: wherever the power is cut, and whatever is kept, the log that is
// opened has what it had after the last call that returned OK, or after the one
// that did not.
func TestNothingIsLost(t *testing.T) {
	var got [2]int // how often it had the one, and the other
	for seed := range uint64(120) {
		r := dice(30000 + seed)
		w := newLife(r)
		for n := 0; ; n++ {
			d, may, wasCut := w.cut(t, n)
			if !wasCut {
				break
			}
			for range 12 {
				l := recovered(t, r, d.Copy(), may)
				got[slices.Index(may, contentOf(l))]++
			}
			if t.Failed() {
				t.Fatalf("seed %d, power for %d", seed, n)
			}
		}
	}
	if min(got[0], got[1]) < 2000 {
		t.Error("too few of a kind:", got)
	}
}

// P9.7, P9.8: a log goes on from crash to crash.
func TestManyCrashes(t *testing.T) {
	generations := 0
	for seed := range uint64(150) {
		r := dice(40000 + seed)
		d := newDisk(t, make([]sector, []int{4, 6, 8, 16}[r.IntN(4)]))
		l := open(t, d)
		for range 60 {
			s, _ := opened(imageOf(t, d))
			may := []string{s.content()}
			ok(t, d.Fuse(r.IntN(20)))
			for r.IntN(20) > 0 { // else the power is cut by the crash
				call, next := goodCall(r, s)
				e := call(l)
				if e != api.OK {
					equal(t, "the power is cut", e, api.ErrDisk)
					may = append(may, next.content())
					break
				}
				s, may = next, []string{next.content()}
			}
			l = recovered(t, r, d, may)
			if t.Failed() {
				t.Fatalf("seed %d", seed)
			}
		}
		generations += l.Generation()
	}
	if generations < 5000 {
		t.Error("too few generations:", generations)
	}
}

// P9.9: if a byte of a sector is changed, Open has what the log had after one
// of the commits or checkpoints of the current generation or of the one before,
// or begins anew.
func TestSpoiltSectors(t *testing.T) {
	for seed := range uint64(40) {
		r := dice(50000 + seed)
		w := newLife(r)
		d, _, _ := w.cut(t, 1<<20)
		last := w.whole[len(w.whole)-1]
		fresh, _ := opened(make([]sector, len(w.start)))
		may := map[string]bool{fresh.content(): true}
		for _, s := range w.whole {
			if s.g >= last.g-1 {
				may[s.content()] = true
			}
		}
		if old := read(w.start, 1-last.g%2); old.g == last.g-1 {
			may[old.content()] = true
		}
		ok(t, d.Crash(nil))
		im := imageOf(t, d)
		for i := range im {
			for at := range 64 {
				for _, flip := range []byte{1, 0x80, 0xff, byte(1 + r.IntN(255))} {
					bad := slices.Clone(im)
					bad[i][at] ^= flip
					l := open(t, newDisk(t, bad))
					if !may[contentOf(l)] {
						t.Fatalf("seed %d: the log has %s; may have %v", seed, contentOf(l), may)
					}
				}
			}
		}
	}
}
