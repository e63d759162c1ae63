package journal

// Where in a sector of a stream what stands.
const (
	beforeAt     = 4 // behind the checksum: the one of the sector before
	numberAt     = 8
	lengthAt     = 10
	partAt       = 11
	generationAt = 60 // the last, so that the beginning of a sector is no sector
	sectorSize   = 64

	maxPart = generationAt - partAt // bytes of the stream in a sector
)

// sector is the bytes of a sector.
type sector [sectorSize]byte

// place is where in the half of a generation the next sector of its stream is
// written.
type place struct {
	generation int
	used       int // how many sectors there are already
	mark       int // the checksum of the last of them
}

// first returns the sector of a disk, which has two halves of half sectors,
// from which on the stream is written.
func (p place) first(half int) int {
	if p.generation%2 == 1 {
		return 0
	}
	return half
}

// pack returns the sector of this place with a part of the stream.
func (p place) pack(part []byte) sector {
	var s sector
	putNumber(s[beforeAt:numberAt], p.mark)
	putNumber(s[numberAt:lengthAt], p.used)
	s[lengthAt] = byte(len(part))
	copy(s[partAt:generationAt], part)
	putNumber(s[generationAt:], p.generation)
	putNumber(s[:beforeAt], checksum(s[beforeAt:]))
	return s
}

// next returns the place behind a sector that was written to p.
func (p place) next(s sector) place {
	return place{generation: p.generation, used: p.used + 1, mark: s.mark()}
}

// fits reports whether a sector is one that stands in this place.
func (p place) fits(s sector) bool {
	length := s[lengthAt]
	return s.generation() == p.generation && number(s[numberAt:lengthAt]) == p.used &&
		number(s[beforeAt:numberAt]) == p.mark && length >= 1 && length <= maxPart &&
		s.mark() == checksum(s[beforeAt:])
}

// mark returns the checksum that a sector has, be it right or not.
func (s sector) mark() int { return number(s[:beforeAt]) }

// generation returns the generation that a sector has.
func (s sector) generation() int { return number(s[generationAt:]) }

// part returns the part of the stream of a sector that fits.
func (s sector) part() []byte { return s[partAt:][:s[lengthAt]] }

// number reads a number, the lowest byte first.
func number(data []byte) int {
	n := 0
	for i, b := range data {
		n |= int(b) << (8 * i)
	}
	return n
}

// putNumber writes a number, the lowest byte first.
func putNumber(data []byte, n int) {
	for i := range data {
		data[i] = byte(n >> (8 * i))
	}
}

// checksum returns the CRC-32 (IEEE) of data.
func checksum(data []byte) int {
	sum := ^uint32(0)
	for _, b := range data {
		sum ^= uint32(b)
		for range 8 {
			isOdd := sum&1 == 1
			sum >>= 1
			if isOdd {
				sum ^= 0xedb88320
			}
		}
	}
	return int(^sum)
}
