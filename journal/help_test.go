package journal_test

import (
	"encoding/binary"
	"fmt"
	"hash/crc32"
	"math"
	"math/rand/v2"
	"slices"
	"strings"
	"testing"

	"merino/api"
	"merino/journal"
)

// dice gives the same numbers in every run.
func dice(seed uint64) *rand.Rand { return rand.New(rand.NewPCG(seed, 9)) }

// hostile are ints at and round the limits.
var hostile = []int{
	math.MinInt, math.MinInt + 1, -1 << 32, -64, -1, 0, 1, 2, 3, 4, 5, 6, 7, 8, 49, 63, 64, 65, 511, 512, 513, 514,
	4095, 4096, 4097, 1<<20 - 1, 1 << 20, 1<<20 + 1, 1 << 32, 1<<32 + 2, math.MaxInt - 1, math.MaxInt,
}

// sector is the bytes of a sector.
type sector = [64]byte

// put is a write to a sector.
type put struct {
	at   int
	data sector
}

// equal fails the test unless two values print alike.
func equal(t *testing.T, what, got, want any) {
	t.Helper()
	if fmt.Sprint(got) != fmt.Sprint(want) {
		t.Errorf("%v: got %v; want %v", what, got, want)
	}
}

// ok fails the test unless all calls succeeded.
func ok(t *testing.T, errs ...api.Errno) {
	t.Helper()
	for i, e := range errs {
		if e != api.OK {
			t.Fatalf("call %d: error %d", i, e)
		}
	}
}

// filled is a sector in which all bytes are b.
func filled(b byte) sector { return sector([]byte(strings.Repeat(string([]byte{b}), 64))) }

// text is n bytes, all c.
func text(n int, c string) string { return strings.Repeat(c, n) }

// newDisk is a disk on which these sectors stand.
func newDisk(t *testing.T, image []sector) *journal.Disk {
	t.Helper()
	d, e := journal.NewDisk(len(image))
	ok(t, e)
	for i, s := range image {
		ok(t, d.Write(i, s[:]))
	}
	ok(t, d.Sync())
	return d
}

// open is the log on a disk.
func open(t *testing.T, d *journal.Disk) *journal.Log {
	t.Helper()
	l, e := journal.Open(d)
	ok(t, e)
	return l
}

// imageOf is all sectors of a disk that has power.
func imageOf(t *testing.T, d *journal.Disk) []sector {
	t.Helper()
	var image []sector
	for i := range d.Sectors() {
		data, e := d.Read(i)
		ok(t, e)
		image = append(image, sector(data))
	}
	return image
}

// sameImage fails the test unless a disk has these sectors.
func sameImage(t *testing.T, what any, d *journal.Disk, want []sector) {
	t.Helper()
	for i, s := range imageOf(t, d) {
		if s != want[i] {
			t.Fatalf("%v: sector %d is %v; want %v", what, i, s, want[i])
		}
	}
}

// laid is an image behind some writes, of each of which so many bytes are kept.
func laid(image []sector, puts []put, keep func(k int) int) []sector {
	image = slices.Clone(image)
	for k, p := range puts {
		n := max(0, min(64, keep(k)))
		copy(image[p.at][:n], p.data[:n])
	}
	return image
}

// all keeps all of each write.
func all(int) int { return 64 }

// listed keeps what stands in a list, and nothing behind it.
func listed(keep []int) func(int) int {
	return func(k int) int {
		if k < len(keep) {
			return keep[k]
		}
		return 0
	}
}

// frame is a frame of the stream.
func frame(kind byte, body string) string {
	return string([]byte{kind, byte(len(body)), byte(len(body) >> 8)}) + body
}

// chunk is what a sector of a stream is made of.
type chunk struct {
	before uint32
	number int
	length byte
	part   string
	g      uint32
}

// pack is the sector of a chunk, with its checksum.
func (c chunk) pack() sector {
	var s sector
	binary.LittleEndian.PutUint32(s[4:], c.before)
	binary.LittleEndian.PutUint16(s[8:], uint16(c.number))
	s[10] = c.length
	copy(s[11:60], c.part)
	binary.LittleEndian.PutUint32(s[60:], c.g)
	return sealed(s)
}

// sealed is a sector with the right checksum.
func sealed(s sector) sector {
	binary.LittleEndian.PutUint32(s[:], crc32.ChecksumIEEE(s[4:]))
	return s
}

// crc is the checksum that stands in a sector.
func crc(s sector) uint32 { return binary.LittleEndian.Uint32(s[:]) }

// generation is the generation that stands in a sector.
func generation(s sector) int { return int(binary.LittleEndian.Uint32(s[60:])) }

// picture is all that a log shows, as a text.
func picture(l *journal.Log) string {
	return fmt.Sprintf("%d %d %d %q %q", l.Generation(), l.Room(), l.Pending(), l.State(), l.Records())
}
