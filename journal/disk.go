// Package journal is layer 9, what stays written when the power is cut: see
// shared/doc/09-journal.md.
package journal

import (
	"slices"

	"merino/api"
)

const (
	leastSectors = 4
	maxFuse      = 1 << 20
	noFuse       = -1
	maxKeep      = 4096 // numbers of what a crash keeps
)

// write is what was written to a sector.
type write struct {
	at   int
	data sector
}

// Disk is a disk that has power, or has none.
type Disk struct {
	written []sector // as they were written last; a made disk has some
	lasting []sector // as they are without the pending writes
	pending []write  // the first maxKeep; a crash leaves nothing of the others
	isOff   bool
	fuse    int // how many more writes and syncs succeed, or noFuse
	writes  int
}

// NewDisk returns a disk of zeros that has power.
func NewDisk(sectors int) (*Disk, api.Errno) {
	if sectors < leastSectors || sectors > api.MaxSectors || sectors%2 != 0 {
		return nil, api.ErrArg
	}
	return &Disk{written: make([]sector, sectors), lasting: make([]sector, sectors), fuse: noFuse}, api.OK
}

// Sectors returns how many sectors there are.
func (d *Disk) Sectors() int {
	if !d.isDisk() {
		return 0
	}
	return len(d.written)
}

// Read returns a sector as it was written last.
func (d *Disk) Read(i int) ([]byte, api.Errno) {
	switch {
	case !d.isDisk():
		return nil, api.ErrNil
	case d.isOff:
		return nil, api.ErrDisk
	case !d.has(i):
		return nil, api.ErrArg
	}
	return slices.Clone(d.written[i][:]), api.OK
}

// Write writes a sector, which lasts when it is synced.
func (d *Disk) Write(i int, data []byte) api.Errno {
	switch {
	case !d.isDisk():
		return api.ErrNil
	case d.isOff:
		return api.ErrDisk
	case !d.has(i) || len(data) != sectorSize:
		return api.ErrArg
	case !d.burn():
		return api.ErrDisk
	}
	copy(d.written[i][:], data)
	if len(d.pending) < maxKeep {
		d.pending = append(d.pending, write{i, d.written[i]})
	}
	d.writes++
	return api.OK
}

// Sync makes all pending writes lasting.
func (d *Disk) Sync() api.Errno {
	if !d.isDisk() {
		return api.ErrNil
	}
	if d.isOff || !d.burn() {
		return api.ErrDisk
	}
	copy(d.lasting, d.written)
	d.pending = nil
	return api.OK
}

// Fuse lets the power be cut behind n more writes and syncs.
func (d *Disk) Fuse(n int) api.Errno {
	switch {
	case !d.isDisk():
		return api.ErrNil
	case d.isOff:
		return api.ErrDisk
	case n < 0 || n > maxFuse:
		return api.ErrArg
	}
	d.fuse = n
	return api.OK
}

// Crash cuts the power and brings it back; of each pending write so many bytes
// are kept.
func (d *Disk) Crash(keep []int) api.Errno {
	if !d.isDisk() {
		return api.ErrNil
	}
	if len(keep) > maxKeep {
		return api.ErrLimit
	}
	for k, w := range d.pending[:min(len(d.pending), len(keep))] {
		kept := max(0, min(keep[k], sectorSize))
		copy(d.lasting[w.at][:kept], w.data[:kept])
	}
	copy(d.written, d.lasting)
	d.pending = nil
	d.isOff = false
	d.fuse = noFuse
	return api.OK
}

// Writes returns how many writes succeeded.
func (d *Disk) Writes() int {
	if !d.isDisk() {
		return 0
	}
	return d.writes
}

// Copy returns a disk that is as d is, and independent of it.
func (d *Disk) Copy() *Disk {
	if !d.isDisk() {
		return nil
	}
	other := *d
	other.written = slices.Clone(d.written)
	other.lasting = slices.Clone(d.lasting)
	other.pending = slices.Clone(d.pending)
	return &other
}

// isDisk reports whether NewDisk or Copy made d.
func (d *Disk) isDisk() bool { return d != nil && len(d.written) > 0 }

// has reports whether there is a sector of this number.
func (d *Disk) has(i int) bool { return i >= 0 && i < len(d.written) }

// burn burns the fuse down by a write or a sync, and reports whether there is
// still power for it.
func (d *Disk) burn() bool {
	if d.fuse == 0 {
		d.isOff = true
		return false
	}
	if d.fuse != noFuse {
		d.fuse--
	}
	return true
}

// image returns all sectors as they were written last.
func (d *Disk) image() ([]sector, api.Errno) {
	image := make([]sector, d.Sectors())
	for i := range image {
		data, err := d.Read(i)
		if err != api.OK {
			return nil, err
		}
		copy(image[i][:], data)
	}
	return image, api.OK
}
