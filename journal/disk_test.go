package journal_test

import (
	"fmt"
	"math/rand/v2"
	"slices"
	"testing"

	"merino/api"
	"merino/journal"
)

// P9.1: a disk has an even number of sectors from 4 to 512, all zeros at first.
func TestNewDisk(t *testing.T) {
	for _, n := range append(upTo(600), hostile...) {
		d, e := journal.NewDisk(n)
		if n < 4 || n > 512 || n%2 != 0 {
			equal(t, n, []any{d == nil, e}, []any{true, api.ErrArg})
			continue
		}
		ok(t, e)
		equal(t, n, []int{d.Sectors(), d.Writes()}, []int{n, 0})
		sameImage(t, n, d, make([]sector, n))
		_, e = d.Read(n)
		equal(t, n, e, api.ErrArg)
	}
}

// upTo is the numbers from 0 to n.
func upTo(n int) []int {
	var list []int
	for i := range n + 1 {
		list = append(list, i)
	}
	return list
}

// P9.1: Write, Read and Sync, with and without power, and their errors.
func TestReadAndWrite(t *testing.T) {
	d := newDisk(t, make([]sector, 4))
	ones, twos := filled(1), filled(2)
	ok(t, d.Write(3, ones[:]), d.Write(0, twos[:]), d.Write(0, ones[:]))
	sameImage(t, "written", d, []sector{ones, {}, {}, ones})
	for _, n := range []int{0, 1, 63, 65, 128} {
		equal(t, n, d.Write(0, make([]byte, n)), api.ErrArg)
	}
	equal(t, "no data", d.Write(0, nil), api.ErrArg)
	for _, i := range hostile {
		if i >= 0 && i < 4 {
			continue
		}
		equal(t, i, d.Write(i, twos[:]), api.ErrArg)
		data, e := d.Read(i)
		equal(t, i, []any{len(data), e}, []any{0, api.ErrArg})
	}
	equal(t, "writes", d.Writes(), 7)
	ok(t, d.Fuse(0))
	equal(t, "the fuse", d.Sync(), api.ErrDisk)
	data, e := d.Read(0)
	equal(t, "read without power", []any{len(data), e}, []any{0, api.ErrDisk})
	_, e = d.Read(-1)
	equal(t, "errors without power", []any{e, d.Write(9, nil), d.Write(0, ones[:]), d.Sync(), d.Fuse(-1), d.Fuse(1)},
		slices.Repeat([]api.Errno{api.ErrDisk}, 6))
	equal(t, "without power", []int{d.Sectors(), d.Writes()}, []int{4, 7})
	ok(t, d.Crash([]int{64}))
	sameImage(t, "the first write is kept", d, []sector{{}, {}, {}, ones})
	ok(t, d.Sync())
	sameImage(t, "synced", d, []sector{{}, {}, {}, ones})
}

// P9.2: a fuse lets so many calls succeed that would succeed, a new one
// replaces it, and a crash takes it away.
func TestFuse(t *testing.T) {
	ones := filled(1)
	for n := range 7 {
		d := newDisk(t, make([]sector, 4))
		ok(t, d.Fuse(0), d.Fuse(n))
		for i := range n {
			equal(t, "no call that counts", []any{d.Write(4, ones[:]), d.Write(0, nil), d.Fuse(-1), d.Crash(make([]int, 4097))},
				[]any{api.ErrArg, api.ErrArg, api.ErrArg, api.ErrLimit})
			if i%3 == 1 {
				ok(t, d.Sync()) // with nothing pending, or something
			} else {
				ok(t, d.Write(i%4, ones[:]))
			}
		}
		equal(t, "ahead of the cut", d.Write(-1, ones[:]), api.ErrArg)
		writes := d.Writes()
		if n%2 == 0 {
			equal(t, n, d.Sync(), api.ErrDisk)
		} else {
			equal(t, n, d.Write(0, ones[:]), api.ErrDisk)
		}
		equal(t, n, []any{d.Writes(), d.Write(0, ones[:])}, []any{writes, api.ErrDisk})
		ok(t, d.Crash(nil))
		for range 9 {
			ok(t, d.Write(0, ones[:]), d.Sync())
		}
	}
	d := newDisk(t, make([]sector, 4))
	for _, n := range hostile {
		want := api.OK
		if n < 0 || n > 1<<20 {
			want = api.ErrArg
		}
		equal(t, n, d.Fuse(n), want)
	}
	ok(t, d.Fuse(2), d.Crash(nil), d.Sync(), d.Sync(), d.Sync())
}

// P9.2: of each pending write a crash keeps so many bytes, one behind the other.
func TestCrash(t *testing.T) {
	keeps := []int{-1 << 63, -1, 0, 1, 10, 63, 64, 65, 1<<63 - 1}
	for _, first := range keeps {
		for _, second := range keeps {
			d := newDisk(t, []sector{filled(9), filled(8), {}, {}})
			puts := []put{{0, filled(1)}, {0, filled(2)}, {1, filled(3)}}
			for _, p := range puts {
				ok(t, d.Write(p.at, p.data[:]))
			}
			keep := []int{first, second}
			ok(t, d.Crash(keep))
			equal(t, "the argument", keep, []int{first, second})
			want := laid([]sector{filled(9), filled(8), {}, {}}, puts, listed(keep))
			sameImage(t, keep, d, want)
			ok(t, d.Crash([]int{64, 64, 64}))
			sameImage(t, "nothing is pending", d, want)
		}
	}
}

// P9.2: at most 4096 numbers, and none for the writes behind so many.
func TestLongCrash(t *testing.T) {
	d := newDisk(t, make([]sector, 4))
	for i := range 5000 {
		s := filled(byte(1 + i%250))
		at := 0
		if i >= 4094 {
			at = 1 + i%2
		}
		ok(t, d.Write(at, s[:]))
	}
	equal(t, "too many numbers", d.Crash(slices.Repeat([]int{64}, 4097)), api.ErrLimit)
	sameImage(t, "nothing was done", d, []sector{filled(1 + 4093%250), filled(1 + 4998%250), filled(1 + 4999%250), {}})
	other := d.Copy()
	ok(t, d.Crash(slices.Repeat([]int{64}, 4096)))
	sameImage(t, "the first 4096", d, []sector{filled(1 + 4093%250), filled(1 + 4094%250), filled(1 + 4095%250), {}})
	ok(t, other.Sync(), other.Crash(nil))
	sameImage(t, "all", other, []sector{filled(1 + 4093%250), filled(1 + 4998%250), filled(1 + 4999%250), {}})
}

// Rule 3: a nil disk, and a zero one.
func TestNoDisk(t *testing.T) {
	s := filled(1)
	for _, d := range []*journal.Disk{nil, {}} {
		data, e := d.Read(0)
		equal(t, "results", []any{d.Sectors(), d.Writes(), d.Copy() == nil, len(data)}, []any{0, 0, true, 0})
		equal(t, "errors", []any{e, d.Write(0, s[:]), d.Write(-1, nil), d.Sync(), d.Fuse(0), d.Fuse(-1), d.Crash(nil), d.Crash(make([]int, 5000))},
			slices.Repeat([]api.Errno{api.ErrNil}, 8))
	}
}

// Rule 4: no argument is kept, and results are new memory.
func TestDiskMemory(t *testing.T) {
	d := newDisk(t, make([]sector, 4))
	data := filled(1)
	ok(t, d.Write(0, data[:]))
	data[0] = 7
	sameImage(t, "the argument is not kept", d, []sector{filled(1), {}, {}, {}})
	read, _ := d.Read(0)
	read[0] = 7
	sameImage(t, "the result is new", d, []sector{filled(1), {}, {}, {}})
	ok(t, d.Crash([]int{64}))
	sameImage(t, "what was pending is kept apart", d, []sector{filled(1), {}, {}, {}})
}

// drive is a disk in the words of the chapter.
type drive struct {
	lasting []sector
	puts    []put
	off     bool
	fuse    int // -1 if none is set
	writes  int
}

// copy is a drive that is independent of d.
func (d drive) copy() drive {
	d.lasting, d.puts = slices.Clone(d.lasting), slices.Clone(d.puts)
	return d
}

// last reports whether a write or a sync succeeds.
func (d *drive) last() bool {
	d.off = d.off || d.fuse == 0
	if !d.off && d.fuse > 0 {
		d.fuse--
	}
	return !d.off
}

func (d *drive) write(at int, data []byte) api.Errno {
	if d.off {
		return api.ErrDisk
	}
	if at < 0 || at >= len(d.lasting) || len(data) != 64 {
		return api.ErrArg
	}
	if !d.last() {
		return api.ErrDisk
	}
	d.puts = append(d.puts, put{at, sector(data)})
	d.writes++
	return api.OK
}

func (d *drive) sync() api.Errno {
	if !d.last() {
		return api.ErrDisk
	}
	d.lasting, d.puts = laid(d.lasting, d.puts, all), nil
	return api.OK
}

func (d *drive) crash(keep []int) api.Errno {
	d.lasting = laid(d.lasting, d.puts, listed(keep))
	d.puts, d.off, d.fuse = nil, false, -1
	return api.OK
}

// picture is all that a drive shows.
func (d *drive) picture() string {
	if d.off {
		return fmt.Sprint(len(d.lasting), d.writes, "off")
	}
	return fmt.Sprint(len(d.lasting), d.writes, laid(d.lasting, d.puts, all))
}

// diskPicture is all that a disk shows.
func diskPicture(t *testing.T, d *journal.Disk) string {
	t.Helper()
	if _, e := d.Read(0); e != api.OK {
		equal(t, "no power", e, api.ErrDisk)
		return fmt.Sprint(d.Sectors(), d.Writes(), "off")
	}
	return fmt.Sprint(d.Sectors(), d.Writes(), imageOf(t, d))
}

// anySector is a sector of random bytes.
func anySector(r *rand.Rand) sector {
	var s sector
	for i := range s {
		s[i] = byte(r.Uint32())
	}
	return s
}

// P9.1, P9.2: a disk, and copies of it, do what the words of the chapter say.
func TestDiskModel(t *testing.T) {
	for seed := range uint64(100) {
		r := dice(seed)
		n := 4 + 2*r.IntN(4)
		disks, drives := []*journal.Disk{newDisk(t, make([]sector, n))}, []drive{{make([]sector, n), nil, false, -1, n}}
		for range 60 {
			i := r.IntN(len(disks))
			d, want := disks[i], &drives[i]
			switch k := r.IntN(12); {
			case k < 6:
				at, s := r.IntN(n+2)-1, anySector(r)
				data := s[:]
				if r.IntN(8) == 0 {
					data = s[:63]
				}
				equal(t, "write", d.Write(at, data), want.write(at, data))
			case k < 7:
				equal(t, "sync", d.Sync(), want.sync())
			case k < 9:
				keep := make([]int, r.IntN(8))
				for i := range keep {
					keep[i] = r.IntN(80) - 8
				}
				equal(t, "crash", d.Crash(keep), want.crash(keep))
			case k < 10 && !want.off:
				want.fuse = r.IntN(10)
				ok(t, d.Fuse(want.fuse))
			case len(disks) < 4:
				disks, drives = append(disks, d.Copy()), append(drives, want.copy())
			}
			for i, d := range disks {
				if got, want := diskPicture(t, d), drives[i].picture(); got != want {
					t.Fatalf("seed %d: the disk is %s; want %s", seed, got, want)
				}
			}
		}
	}
}
