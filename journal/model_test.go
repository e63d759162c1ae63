package journal_test

import (
	"fmt"
	"math"
	"slices"
	"testing"

	"merino/api"
	"merino/journal"
)

// shelf is a log in the words of the chapter: what it has, and what stands on
// its disk.
type shelf struct {
	image   []sector
	g, used int
	before  uint32 // the checksum of the last sector
	state   string
	records []string
	pending []string
}

// half is how many sectors a half has.
func (s *shelf) half() int { return len(s.image) / 2 }

// picture is all that a shelf shows, as a text.
func (s *shelf) picture() string {
	return fmt.Sprintf("%d %d %d %q %q", s.g, s.half()-s.used, len(s.pending), s.state, s.records)
}

// first is where the half of a generation begins.
func (s *shelf) first(g int) int {
	if g%2 == 1 {
		return 0
	}
	return s.half()
}

// content is what a shelf has, but for what is pending.
func (s *shelf) content() string { return fmt.Sprintf("%d %q %q", s.g, s.state, s.records) }

// contentOf is what a log has, but for what is pending.
func contentOf(l *journal.Log) string {
	return fmt.Sprintf("%d %q %q", l.Generation(), l.State(), l.Records())
}

// lay is the writes of a stream that begins at the place that the shelf has
// come to; nil if there is no space for them.
func (s *shelf) lay(stream string) []put {
	var puts []put
	for len(stream) > 0 {
		if s.used == s.half() {
			return nil
		}
		n := min(49, len(stream))
		c := chunk{s.before, s.used, byte(n), stream[:n], uint32(s.g)}
		puts = append(puts, put{s.first(s.g) + s.used, c.pack()})
		s.before = crc(c.pack())
		stream = stream[n:]
		s.used++
	}
	s.image = laid(s.image, puts, all)
	return puts
}

// commit is the shelf behind a commit, and the writes of it.
func (s shelf) commit() (shelf, []put, api.Errno) {
	stream := ""
	for _, r := range s.pending {
		stream += frame(2, r)
	}
	if stream == "" {
		return s, nil, api.OK
	}
	old := s
	s.records, s.pending = slices.Concat(s.records, s.pending), nil
	puts := s.lay(stream + frame(3, ""))
	if puts == nil {
		return old, nil, api.ErrSpace
	}
	return s, puts, api.OK
}

// checkpoint is the shelf behind a checkpoint, and the writes of it.
func (s shelf) checkpoint(state string) (shelf, []put, api.Errno) {
	switch {
	case len(s.pending) > 0:
		return s, nil, api.ErrState
	case len(state) > 8192:
		return s, nil, api.ErrLimit
	case s.g == math.MaxUint32:
		return s, nil, api.ErrFull
	}
	next := shelf{image: s.image, g: s.g + 1, state: state}
	puts := next.lay(frame(1, state) + frame(3, ""))
	if puts == nil {
		return s, nil, api.ErrSpace
	}
	return next, puts, api.OK
}

// add is the shelf with another record pending.
func (s shelf) add(record string) (shelf, api.Errno) {
	if len(record) > 1024 {
		return s, api.ErrLimit
	}
	if len(s.pending) == 64 {
		return s, api.ErrFull
	}
	s.pending = append(slices.Clone(s.pending), record)
	return s, api.OK
}

// read is the shelf of what stands in one half of an image, be it the lower one
// (parity 1) or the upper one (parity 0); of generation 0 if it does not count.
func read(image []sector, parity int) shelf {
	s := shelf{image: image}
	half := image[s.first(parity):][:s.half()]
	g := generation(half[0])
	if g < 1 || g%2 != parity {
		return s
	}
	var stream string
	var from []int // the sector from which each byte of the stream is
	for i, sec := range half {
		n := int(sec[10])
		want := chunk{0, i, byte(n), string(sec[11:60]), uint32(g)}
		if i > 0 {
			want.before = crc(half[i-1])
		}
		if n < 1 || n > 49 || sec != want.pack() {
			break
		}
		stream += string(sec[11 : 11+n])
		from = append(from, slices.Repeat([]int{i}, n)...)
	}
	var state string
	var records []string
	for at := 0; at+3 <= len(stream); {
		kind, n := stream[at], int(stream[at+1])+256*int(stream[at+2])
		end := at + 3 + n
		if end > len(stream) || kind < 1 || kind > 3 || (kind == 1) != (at == 0) || kind == 3 && n > 0 {
			break
		}
		body := stream[at+3 : end]
		switch kind {
		case 1:
			state = body
		case 2:
			records = append(records, body)
		case 3:
			used := from[end-1] + 1
			s = shelf{image: image, g: g, used: used, before: crc(half[used-1]), state: state, records: slices.Clone(records)}
		}
		at = end
	}
	return s
}

// opened is the shelf that Open finds in an image, and the writes of Open.
func opened(image []sector) (shelf, []put) {
	s := read(image, 1)
	if other := read(image, 0); other.g > s.g {
		s = other
	}
	var puts []put
	for i, sec := range image {
		own := (i < s.half()) == (s.g%2 == 1)
		if s.g == 0 && sec != (sector{}) || s.g > 0 && own && i >= s.first(s.g)+s.used && sec != (sector{}) ||
			s.g > 0 && !own && generation(sec) > s.g {
			puts = append(puts, put{i, sector{}})
		}
	}
	s.image = laid(image, puts, all)
	if s.g > 0 {
		return s, puts
	}
	s, first, _ := s.checkpoint("")
	return s, append(puts, first...)
}

// checkCuts fails the test unless a call, on a disk with nothing pending, makes
// these writes in this order, with one sync behind them if there are any: it
// looks at what stands on the disk if the power is cut at each of them.
func checkCuts(t *testing.T, what any, disk func() *journal.Disk, call func(d *journal.Disk) api.Errno, puts []put) {
	t.Helper()
	before := imageOf(t, disk())
	syncs := min(1, len(puts))
	for n := range len(puts) + syncs {
		for _, kept := range []int{0, 64} {
			d := disk()
			ok(t, d.Fuse(n))
			writes := d.Writes()
			equal(t, what, call(d), api.ErrDisk)
			equal(t, what, d.Writes()-writes, n)
			ok(t, d.Crash(slices.Repeat([]int{kept}, n)))
			sameImage(t, what, d, laid(before, puts[:n], func(int) int { return kept }))
		}
	}
	d := disk()
	ok(t, d.Fuse(len(puts)+syncs), call(d))
	sameImage(t, what, d, laid(before, puts, all))
	equal(t, "another call behind it", d.Sync(), api.ErrDisk)
	ok(t, d.Crash(nil))
	sameImage(t, what, d, laid(before, puts, all))
}
