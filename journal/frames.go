package journal

import (
	"iter"
	"slices"
)

// The kinds of frames.
const (
	checkpointKind = 1
	recordKind     = 2
	commitKind     = 3
)

// headSize is how many bytes of a frame stand ahead of its body: the kind and
// the length.
const headSize = 3

// frame is a frame of a stream.
type frame struct {
	kind byte
	body []byte
	end  int // where in the stream the next one begins
}

// addFrame puts a frame behind a stream.
func addFrame(stream []byte, kind byte, body []byte) []byte {
	stream = append(stream, kind, byte(len(body)), byte(len(body)>>8))
	return append(stream, body...)
}

// frames goes through the frames of a stream as long as they are whole and
// right.
func frames(stream []byte) iter.Seq[frame] {
	return func(yield func(frame) bool) {
		for at := 0; ; {
			f, isThere := frameAt(stream, at)
			if !isThere || !yield(f) {
				return
			}
			at = f.end
		}
	}
}

// frameAt returns the frame that begins at a byte of a stream, and whether it
// is whole and right.
func frameAt(stream []byte, at int) (frame, bool) {
	left := stream[at:]
	if len(left) < headSize {
		return frame{}, false
	}
	kind, length := left[0], number(left[1:headSize])
	left = left[headSize:]
	if length > len(left) || !isRight(kind, length, at == 0) {
		return frame{}, false
	}
	return frame{kind, left[:length], at + headSize + length}, true
}

// isRight reports whether a frame may be the first one, or another one, of a
// stream.
func isRight(kind byte, length int, isFirst bool) bool {
	switch kind {
	case checkpointKind:
		return isFirst
	case recordKind:
		return !isFirst
	case commitKind:
		return !isFirst && length == 0
	}
	return false
}

// readHalf returns the log that stands in a half of a disk; its generation is 0
// if the half does not count. An odd generation belongs to the lower half.
func readHalf(half []sector, parity int) Log {
	chain := chained(half, parity)
	var stream []byte
	for _, s := range chain {
		stream = append(stream, s.part()...)
	}
	var state []byte
	var records [][]byte
	settled, end := 0, 0 // how many records the last commit settles, and where it ends
	for f := range frames(stream) {
		switch f.kind {
		case checkpointKind:
			state = slices.Clone(f.body)
		case recordKind:
			records = append(records, slices.Clone(f.body))
		default:
			settled, end = len(records), f.end
		}
	}
	if end == 0 {
		return Log{}
	}
	l := Log{place: place{generation: half[0].generation()}, state: state, records: records[:settled]}
	for _, s := range chain {
		if end <= 0 {
			break
		}
		end -= len(s.part())
		l.place = l.next(s)
	}
	return l
}

// chained returns the sectors of a half, from the first on, that make a stream
// of a generation that belongs to the half.
func chained(half []sector, parity int) []sector {
	at := place{generation: half[0].generation()}
	if at.generation < 1 || at.generation%2 != parity {
		return nil
	}
	for i, s := range half {
		if !at.fits(s) {
			return half[:i]
		}
		at = at.next(s)
	}
	return half
}
