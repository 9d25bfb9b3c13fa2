package store

import (
	"bytes"
	"iter"

	"daybook/api"
	"daybook/checksum"
)

// head is how many bytes of a frame stand ahead of the record.
const head = 8

// Frame is a record's bytes as they stand in a segment.
func Frame(rec []byte) ([]byte, api.Errno) {
	n := len(rec)
	if n > api.MaxRecord {
		return nil, api.ErrLong
	}
	sum := checksum.Of(rec)
	b := make([]byte, 0, head+n)
	b = append(b, byte(n), byte(n>>8), ^byte(n), ^byte(n>>8)) // 65535 - n is n with its bits turned
	b = append(b, byte(sum), byte(sum>>8), byte(sum>>16), byte(sum>>24))
	return append(b, rec...), api.OK
}

// Scan takes frames from the beginning: the records, and how many bytes they have.
func Scan(b []byte) ([][]byte, int) {
	var recs [][]byte
	end := 0
	for at, frame := range frames(b) {
		recs = append(recs, frame[head:])
		end = at + len(frame)
	}
	return recs, end
}

// frames gives the frames that stand whole, one behind the other, from the beginning of b on, each with its place; each is new memory, so that it may be kept.
func frames(b []byte) iter.Seq2[int, []byte] {
	return func(yield func(int, []byte) bool) {
		at := 0
		for {
			frame, ok := first(b[at:])
			if !ok || !yield(at, frame) {
				return
			}
			at += len(frame)
		}
	}
}

// first: the frame at the beginning of b, made anew, if a whole one stands there.
func first(b []byte) ([]byte, bool) {
	if len(b) < head || len(b) < head+told(b) {
		return nil, false
	}
	frame, e := Frame(b[head : head+told(b)])
	return frame, e == api.OK && bytes.HasPrefix(b, frame)
}

// told: the record's length by the first two bytes of a frame.
func told(b []byte) int { return int(b[0]) | int(b[1])<<8 }

// isTorn: b is what a crash can leave of a frame.
func isTorn(b []byte) bool {
	if len(b) < 2 {
		return true // every byte is the first one of some length
	}
	turned := []byte{^b[0], ^b[1]}
	return told(b) <= api.MaxRecord && len(b) < head+told(b) && bytes.HasPrefix(turned, b[2:min(4, len(b))])
}
