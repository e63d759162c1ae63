package house

import (
	"slices"
	"strings"

	"merino/api"
	"merino/journal"
)

// What the frames of a record and of a commit need beside the record, and how
// many bytes of them go into a sector: see shared/doc/09-journal.md.
const (
	frameBytes  = 6
	sectorBytes = 49
)

// recorder writes the book of a house to the log on its disk.
//
// The log itself stands on a twin of the disk, and what it writes to the twin
// is then written to the disk, sector by sector, and synced, as the log would
// do it. For a log cannot be copied, and one that is opened on a copy of the
// disk may clear old sectors there, for which it needs power: the copy would
// not be as the disk is, and its fuse would burn down too early. The twin may
// be written to at will, as it has no fuse and nobody sees it.
type recorder struct {
	disk  *journal.Disk
	twin  *journal.Disk
	log   *journal.Log // the one on the twin
	isOff bool         // the disk has no power
}

// newRecorder returns a recorder that goes on with the log on a disk.
func newRecorder(disk *journal.Disk) *recorder {
	twin := disk.Copy()
	// A crash takes away the fuse, and nothing else if all is synced, for which
	// a fuse of 1 is enough.
	twin.Fuse(1)
	twin.Sync()
	twin.Crash(nil)
	log, _ := journal.Open(twin)
	return &recorder{disk: disk, twin: twin, log: log}
}

// copy returns a recorder that goes on as r does, on a copy of its disk.
func (r *recorder) copy() *recorder {
	c := newRecorder(r.disk.Copy())
	c.isOff = r.isOff
	return c
}

// hasNoPower reports whether the disk was found to have no power. Without a
// recorder, nothing is written that would need it.
func (r *recorder) hasNoPower() bool { return r != nil && r.isOff }

// record puts a line behind a book on the disk. A house without a recorder
// reads its book from a disk, on which the line stands already.
func (r *recorder) record(line string, book []string) api.Errno {
	if r == nil {
		return api.OK
	}
	if !r.hasRoom(line) {
		if err := r.checkpoint(book); err != api.OK {
			return err
		}
		if !r.hasRoom(line) {
			return api.ErrSpace
		}
	}
	from := r.used()
	r.log.Append([]byte(line))
	r.log.Commit()
	return r.repeat(from)
}

// hasRoom reports whether the log has sectors enough for a line.
func (r *recorder) hasRoom(line string) bool {
	return (len(line)+frameBytes+sectorBytes-1)/sectorBytes <= r.log.Room()
}

// checkpoint begins the next generation of the log, with a book as its state.
func (r *recorder) checkpoint(book []string) api.Errno {
	var state strings.Builder
	for _, line := range book {
		state.WriteString(line)
		state.WriteByte('\n')
	}
	if err := r.log.Checkpoint([]byte(state.String())); err != api.OK {
		return err
	}
	return r.repeat(0)
}

// half returns how many sectors a half of the disk has.
func (r *recorder) half() int { return r.disk.Sectors() / 2 }

// used returns how many sectors of its half the generation of the log has used.
func (r *recorder) used() int { return r.half() - r.log.Room() }

// repeat writes to the disk what the log wrote to the twin, from that sector of
// its half on.
func (r *recorder) repeat(from int) api.Errno {
	first := 0
	if r.log.Generation()%2 == 0 {
		first = r.half()
	}
	for i := from; i < r.used(); i++ {
		data, _ := r.twin.Read(first + i)
		if err := r.disk.Write(first+i, data); err != api.OK {
			r.isOff = true
			return err
		}
	}
	if err := r.disk.Sync(); err != api.OK {
		r.isOff = true
		return err
	}
	return api.OK
}

// bookOn returns the book that stands in a log: its state, and its records.
func bookOn(log *journal.Log) []string {
	book := slices.Collect(linesOf(string(log.State())))
	for _, record := range log.Records() {
		book = append(book, string(record))
	}
	return book
}
