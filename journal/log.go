package journal

import (
	"math"
	"slices"

	"merino/api"
)

const (
	maxPending    = 64
	maxGeneration = math.MaxUint32
)

// Log is a log on a disk.
type Log struct {
	place
	disk      *Disk // a log that was opened has one
	state     []byte
	records   [][]byte
	pending   [][]byte
	hasFailed bool // it returned ErrDisk
}

// Open returns the log that stands on a disk, or a new one, and clears what an
// unfinished call left.
func Open(d *Disk) (*Log, api.Errno) {
	if !d.isDisk() {
		return nil, api.ErrNil
	}
	image, err := d.image()
	if err != api.OK {
		return nil, err
	}
	l := newest(image)
	l.disk = d
	before := d.Writes()
	err = l.clear(image)
	switch {
	case err != api.OK:
		return nil, err
	case l.generation == 0:
		// A new log is one of generation 0 that goes on to the next.
		err = l.Checkpoint(nil)
	case d.Writes() > before:
		err = d.Sync()
	}
	if err != api.OK {
		return nil, err
	}
	return &l, api.OK
}

// Append puts a record into the next commit.
func (l *Log) Append(record []byte) api.Errno {
	switch {
	case !l.isLog():
		return api.ErrNil
	case l.hasFailed:
		return api.ErrDisk
	case len(record) > api.MaxRecord:
		return api.ErrLimit
	case len(l.pending) == maxPending:
		return api.ErrFull
	}
	l.pending = append(l.pending, slices.Clone(record))
	return api.OK
}

// Commit writes the pending records.
func (l *Log) Commit() api.Errno {
	switch {
	case !l.isLog():
		return api.ErrNil
	case l.hasFailed:
		return api.ErrDisk
	case len(l.pending) == 0:
		return api.OK
	}
	var stream []byte
	for _, record := range l.pending {
		stream = addFrame(stream, recordKind, record)
	}
	stream = addFrame(stream, commitKind, nil)
	if err := l.lay(l.place, stream); err != api.OK {
		return err
	}
	l.records = append(l.records, l.pending...)
	l.pending = nil
	return api.OK
}

// Checkpoint begins the next generation with a state.
func (l *Log) Checkpoint(state []byte) api.Errno {
	switch {
	case !l.isLog():
		return api.ErrNil
	case l.hasFailed:
		return api.ErrDisk
	case len(l.pending) > 0:
		return api.ErrState
	case len(state) > api.MaxState:
		return api.ErrLimit
	case l.generation == maxGeneration:
		return api.ErrFull
	}
	stream := addFrame(nil, checkpointKind, state)
	stream = addFrame(stream, commitKind, nil)
	if err := l.lay(place{generation: l.generation + 1}, stream); err != api.OK {
		return err
	}
	l.state = slices.Clone(state)
	l.records = nil
	return api.OK
}

// State returns the state of the last checkpoint.
func (l *Log) State() []byte {
	if !l.isLog() {
		return nil
	}
	return slices.Clone(l.state)
}

// Records returns the records that were committed since the last checkpoint.
func (l *Log) Records() [][]byte {
	if !l.isLog() {
		return nil
	}
	records := slices.Clone(l.records)
	for i, record := range records {
		records[i] = slices.Clone(record)
	}
	return records
}

// Pending returns how many records are pending.
func (l *Log) Pending() int {
	if !l.isLog() {
		return 0
	}
	return len(l.pending)
}

// Room returns how many sectors the half of the generation has left.
func (l *Log) Room() int {
	if !l.isLog() {
		return 0
	}
	return l.half() - l.used
}

// Generation returns the generation.
func (l *Log) Generation() int {
	if !l.isLog() {
		return 0
	}
	return l.generation
}

// newest returns the log of the greater generation that stands on a disk; its
// generation is 0 if no half counts.
func newest(image []sector) Log {
	half := len(image) / 2
	lower, upper := readHalf(image[:half], 1), readHalf(image[half:], 0)
	if lower.generation > upper.generation {
		return lower
	}
	return upper
}

// isLog reports whether Open made l.
func (l *Log) isLog() bool { return l != nil && l.disk != nil }

// half returns how many sectors a half of the disk has.
func (l *Log) half() int { return l.disk.Sectors() / 2 }

// clear writes zeros to the sectors that an unfinished call left.
func (l *Log) clear(image []sector) api.Errno {
	var zeros sector
	for i, s := range image {
		if !l.isLeft(i, s) {
			continue
		}
		if err := l.disk.Write(i, zeros[:]); err != api.OK {
			return err
		}
	}
	return api.OK
}

// isLeft reports whether a sector of the disk was left by an unfinished call:
// it may be taken for one of a stream when others have been written.
func (l *Log) isLeft(i int, s sector) bool {
	if s == (sector{}) {
		return false
	}
	if l.generation == 0 {
		return true
	}
	own := i - l.first(l.half()) // its number, if it is of the same half
	if own < 0 || own >= l.half() {
		return s.generation() > l.generation
	}
	return own >= l.used
}

// lay writes a stream to a place and behind it, and syncs; then the log goes on
// behind that.
func (l *Log) lay(p place, stream []byte) api.Errno {
	if (len(stream)+maxPart-1)/maxPart > l.half()-p.used {
		return api.ErrSpace
	}
	for part := range slices.Chunk(stream, maxPart) {
		s := p.pack(part)
		if err := l.disk.Write(p.first(l.half())+p.used, s[:]); err != api.OK {
			l.hasFailed = true
			return err
		}
		p = p.next(s)
	}
	if err := l.disk.Sync(); err != api.OK {
		l.hasFailed = true
		return err
	}
	l.place = p
	return api.OK
}
