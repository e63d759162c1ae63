package journal_test

import (
	"math/rand/v2"
	"slices"
	"testing"

	"merino/api"
	"merino/journal"
)

// checkOpen fails the test unless Open finds on a disk with these sectors what
// the words of the chapter say, and writes what they say; a second Open finds
// the same and writes nothing.
func checkOpen(t *testing.T, what any, image []sector) shelf {
	t.Helper()
	want, puts := opened(image)
	d := newDisk(t, image)
	writes := d.Writes()
	l := open(t, d)
	equal(t, what, picture(l), want.picture())
	equal(t, what, d.Writes()-writes, len(puts))
	sameImage(t, what, d, want.image)
	again := open(t, d)
	equal(t, what, picture(again), want.picture())
	equal(t, what, d.Writes()-writes, len(puts))
	return want
}

// streamOf is the sectors of a half with a stream, which begins at sector 0 and
// is cut into parts of these lengths.
func streamOf(half int, g uint32, stream string, lengths func() int) []sector {
	list := make([]sector, half)
	before := uint32(0)
	for i := 0; i < half && stream != ""; i++ {
		n := min(len(stream), lengths())
		list[i] = chunk{before, i, byte(n), stream[:n], g}.pack()
		before = crc(list[i])
		stream = stream[n:]
	}
	return list
}

// full are the lengths of parts that are as long as can be.
func full() int { return 49 }

// image is a disk of 8 sectors whose halves have these streams.
func image(lower uint32, low string, upper uint32, high string) []sector {
	return slices.Concat(streamOf(4, lower, low, full), streamOf(4, upper, high, full))
}

// P9.3: a new disk, and others on which nothing counts.
func TestOpenAnew(t *testing.T) {
	fresh, puts := opened(make([]sector, 8))
	equal(t, "the first sector", fresh.image[0], chunk{0, 0, 6, "\x01\x00\x00\x03\x00\x00", 1}.pack())
	equal(t, "one write", len(puts), 1)
	good := frame(1, "state") + frame(3, "")
	for what, im := range map[string][]sector{
		"new":                       make([]sector, 8),
		"spoilt":                    {filled(1), {}, filled(2), {}, {}, filled(255), {}, filled(3)},
		"an even one below":         image(2, good, 0, ""),
		"an odd one above":          image(0, "", 3, good),
		"generation 0":              image(0, good, 0, good),
		"no commit":                 image(1, frame(1, "state"), 0, ""),
		"no checkpoint":             image(1, frame(2, "record")+frame(3, ""), 0, ""),
		"a commit first":            image(1, frame(3, ""), 0, ""),
		"a commit with a length":    image(1, frame(1, "state")+frame(3, "x"), 0, ""),
		"another kind":              image(1, frame(1, "state")+frame(0, "")+frame(3, ""), 0, ""),
		"another kind above":        image(1, frame(1, "state")+frame(4, "")+frame(3, ""), 0, ""),
		"two checkpoints":           image(1, frame(1, "state")+frame(1, "state")+frame(3, ""), 0, ""),
		"a commit that is cut":      image(1, frame(1, "state")+"\x03\x00", 0, ""),
		"a record that is too long": image(1, frame(1, "")+"\x02\x00\x01"+text(255, "\x03"), 0, ""),
	} {
		checkOpen(t, what, im)
		d := newDisk(t, im)
		l := open(t, d)
		equal(t, what, picture(l), `1 3 0 "" []`)
		sameImage(t, what, d, fresh.image)
	}
	for _, n := range []int{4, 6, 512} {
		equal(t, n, open(t, newDisk(t, make([]sector, n))).Room(), n/2-1)
	}
}

// P9.3: the half of the greater generation that counts, and what is cleared.
func TestOpenNewest(t *testing.T) {
	one := frame(1, "one") + frame(2, "a") + frame(3, "")
	two := frame(1, "two") + frame(2, "b") + frame(2, "") + frame(3, "")
	none := frame(1, "none") + frame(2, "c")
	for _, c := range []struct {
		what        string
		image       []sector
		want        string
		left, least int
	}{
		{"only below", image(5, one, 0, ""), `5 3 0 "one" ["a"]`, 0, 0},
		{"only above", image(0, "", 6, two), `6 3 0 "two" ["b" ""]`, 0, 0},
		{"both, above", image(5, one, 6, two), `6 3 0 "two" ["b" ""]`, 0, 0},
		{"both, below", image(7, one, 6, two), `7 3 0 "one" ["a"]`, 0, 0},
		{"far behind", image(1<<32-1, one, 2, two), `4294967295 3 0 "one" ["a"]`, 0, 0},
		{"compared as wholes", image(1<<24+1, one, 1<<16-2, two), `16777217 3 0 "one" ["a"]`, 0, 0},
		{"without a sign", image(1<<31+1, one, 1<<31-2, two), `2147483649 3 0 "one" ["a"]`, 0, 0},
		{"the greater one does not count", image(5, one, 6, none), `5 3 0 "one" ["a"]`, 1, 4},
		{"the greater one does not count, below", image(7, none, 6, two), `6 3 0 "two" ["b" ""]`, 1, 0},
		{"a long rest", image(5, one+none+text(99, "x"), 4, two), `5 3 0 "one" ["a"]`, 2, 1},
	} {
		want := checkOpen(t, c.what, c.image)
		equal(t, c.what, want.picture(), c.want)
		_, puts := opened(c.image)
		equal(t, c.what, len(puts), c.left)
		if c.left > 0 {
			equal(t, c.what, puts[0].at, c.least)
		}
	}
}

// P9.3: in the other half only the last four bytes of a sector count, in the
// own one all of them; each sector is cleared in its turn.
func TestOpenClears(t *testing.T) {
	whole := frame(1, "") + frame(2, text(60, "r")) + frame(3, "")
	for g, other := range map[uint32]int{5: 4, 6: 0} {
		im := make([]sector, 8)
		copy(im[4-other:], streamOf(4, g, whole, full))
		im[4-other+2][17] = 1 // behind the two sectors of the log
		im[4-other+3][60] = 1
		im[other] = chunk{7, 9, 3, "new", g + 1}.pack()
		im[other+1] = chunk{0, 1, 49, "same", g}.pack()
		im[other+2] = chunk{0, 0, 6, "old", g - 1}.pack()
		im[other+3] = sector{63: 1}
		want := checkOpen(t, g, im)
		equal(t, g, want.used, 2)
		left := []int{4 - other + 2, 4 - other + 3, other, other + 3}
		slices.Sort(left)
		_, puts := opened(im)
		for k, p := range puts {
			equal(t, g, p, put{left[k], sector{}})
		}
		equal(t, g, len(puts), 4)
		checkCuts(t, g, func() *journal.Disk { return newDisk(t, im) }, openOnly, puts)
	}
}

// openOnly opens a disk.
func openOnly(d *journal.Disk) api.Errno {
	l, e := journal.Open(d)
	if (l == nil) != (e != api.OK) {
		return -1
	}
	return e
}

// Each part of a sector counts when a half is read, but for the spare bytes.
func TestReadSector(t *testing.T) {
	whole := frame(1, text(80, "s")) + frame(3, "") + frame(2, "r") + frame(3, "")
	base := streamOf(4, 3, whole, full)
	for i := range 2 {
		for at := range 64 {
			for _, flip := range []byte{1, 2, 0x80, 0xff} {
				bad := slices.Clone(base)
				bad[i][at] ^= flip
				checkOpen(t, "spoilt", append(slices.Clone(bad), make([]sector, 4)...))
				bad[i] = sealed(bad[i])
				checkOpen(t, "sealed", append(slices.Clone(bad), make([]sector, 4)...))
				if i == 0 { // the next one is joined to it again
					copy(bad[1][4:8], bad[0][:4])
					bad[1] = sealed(bad[1])
					checkOpen(t, "joined", append(slices.Clone(bad), make([]sector, 4)...))
				}
			}
		}
	}
	spare := streamOf(4, 3, frame(1, "s")+frame(3, ""), full)
	spare[0][59] = 1
	spare[0] = sealed(spare[0])
	equal(t, "spare bytes", open(t, newDisk(t, append(spare, make([]sector, 4)...))).State(), []byte("s"))
}

// A sector that says it has no byte of the stream, or more than 49, ends it,
// also where the frames would go on.
func TestReadLength(t *testing.T) {
	for length := range 256 {
		state := frame(1, "state") + frame(3, "")
		first := chunk{0, 0, byte(len(state)), state, 257}.pack()
		second := chunk{crc(first), 1, byte(length), "", 257}
		if length >= 3 { // a record that is whole in as many bytes, up to the end of the sector
			second.part = "\x02" + string([]byte{byte(min(length, 53) - 3), 0}) + text(46, "r")
		}
		third := chunk{crc(second.pack()), 2, 3, frame(3, ""), 257}.pack()
		want := checkOpen(t, length, []sector{first, second.pack(), third, {}, {}, {}, {}, {}})
		used := 1
		if length >= 3 && length <= 49 {
			used = 3
		}
		equal(t, length, want.used, used)
	}
}

// Frames may be longer than the limits, and sectors need not be full.
func TestReadLong(t *testing.T) {
	stream := frame(1, text(9000, "s")) + frame(2, text(2000, "r")) + frame(2, text(70, "q")) + frame(3, "")
	for _, lengths := range []func() int{full, func() int { return 48 }} {
		im := append(streamOf(256, 1, stream, lengths), make([]sector, 256)...)
		want := checkOpen(t, "long", im)
		equal(t, "long", []int{len(want.state), len(want.records[0]), len(want.records[1])}, []int{9000, 2000, 70})
	}
	thin := append(streamOf(8, 3, frame(1, "")+frame(3, ""), func() int { return 1 }), make([]sector, 8)...)
	want := checkOpen(t, "thin", thin)
	equal(t, "thin", want.picture(), `3 2 0 "" []`)
}

// anyStream is frames, most of them right.
func anyStream(r *rand.Rand) string {
	stream := ""
	if r.IntN(10) > 0 {
		stream = frame(1, text(r.IntN(60), "s"))
	}
	for range r.IntN(8) {
		switch r.IntN(12) {
		case 0:
			stream += frame(byte(r.IntN(5)), text(r.IntN(3), "x"))
		case 1, 2, 3, 4:
			stream += frame(3, "")
		default:
			stream += frame(2, text(r.IntN(80)*r.IntN(2), "r"))
		}
	}
	return stream[:len(stream)-min(len(stream), r.IntN(9)/8)]
}

// anyHalf is sectors of a half, most of which make a stream.
func anyHalf(r *rand.Rand, half int, g uint32) []sector {
	lengths := full
	if r.IntN(2) == 0 {
		lengths = func() int { return 1 + r.IntN(49) }
	}
	list := streamOf(half, g, anyStream(r), lengths)
	for r.IntN(3) == 0 {
		i := r.IntN(half)
		switch r.IntN(6) {
		case 0:
			list[i][r.IntN(64)] ^= 1 << r.IntN(8)
		case 1:
			list[i] = sector{}
		case 2:
			list[i] = list[r.IntN(half)]
		case 3:
			list[i] = anySector(r)
		case 4:
			list[i][60] ^= 2
			list[i] = sealed(list[i])
		case 5:
			list[i][[]int{4, 8, 9, 10, 11}[r.IntN(5)]] ^= byte(1 << r.IntN(8))
			list[i] = sealed(list[i])
		}
	}
	return list
}

// P9.3, and how a half is read: Open does what the words of the chapter say,
// whatever stands on the disk, and writes in their order.
func TestOpenModel(t *testing.T) {
	anew, some := 0, 0
	for seed := range uint64(4000) {
		r := dice(1000 + seed)
		half := 2 + r.IntN(6)
		lower := []uint32{1, 3, 255, 257, 1<<32 - 1, 2}[r.IntN(6)]
		im := slices.Concat(anyHalf(r, half, lower), anyHalf(r, half, lower+uint32(2*r.IntN(2))-1))
		want := checkOpen(t, seed, im)
		if want.g == 1 && len(want.records) == 0 {
			anew++
		} else if len(want.records) > 0 {
			some++
		}
		if seed%4 == 0 {
			_, puts := opened(im)
			checkCuts(t, seed, func() *journal.Disk { return newDisk(t, im) }, openOnly, puts)
		}
		if t.Failed() {
			t.Fatalf("seed %d", seed)
		}
	}
	if anew < 200 || some < 1000 {
		t.Error("too few of a kind:", anew, some)
	}
}

// P9.3: Open's errors; P9.1: it needs power only.
func TestOpenErrors(t *testing.T) {
	for _, d := range []*journal.Disk{nil, {}} {
		l, e := journal.Open(d)
		equal(t, "no disk", []any{l == nil, e}, []any{true, api.ErrNil})
	}
	d := newDisk(t, make([]sector, 4))
	ok(t, d.Fuse(0))
	equal(t, "cut", d.Sync(), api.ErrDisk)
	l, e := journal.Open(d)
	equal(t, "no power", []any{l == nil, e}, []any{true, api.ErrDisk})
	ok(t, d.Crash(nil))
	open(t, d)
	ok(t, d.Fuse(0))
	open(t, d) // it writes nothing
	equal(t, "cut", d.Sync(), api.ErrDisk)
}
