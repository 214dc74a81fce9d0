package slog

import (
	"tabularium/api"
	"tabularium/vec"
)

// Where the parts of a record's first sector stand (P14.2).
const (
	// lengthBytes is how many bytes its length has; the record's beginning is behind them.
	lengthBytes = 4
	// inFirst is how many of its bytes are in the first sector.
	inFirst = 51
	// markAt is where its mark begins, which goes on to the sector's end.
	markAt    = lengthBytes + inFirst
	markBytes = api.Sector - markAt
	// markEnd is the sector's last byte: over bytes 0 a torn sector never has it.
	markEnd = 0xa5
)

// Span is how many sectors a record of n bytes takes; 0, if there is no such record (P14.1).
func Span(n int) int {
	if n < 0 || n > api.MaxRecord {
		return 0
	}
	further := max(n-inFirst, 0)
	return 1 + (further+api.Sector-1)/api.Sector
}

// firstOf is the first sector of b, as a log's record with this number (P14.2).
func firstOf(b []byte, gen uint32, number int) [api.Sector]byte {
	var s [api.Sector]byte
	mark := markOf(gen, number)
	copy(s[:], vec.Bytes(uint32(len(b))))
	copy(s[lengthBytes:markAt], b)
	copy(s[markAt:], mark[:])
	return s
}

// headOf is the length and the mark that a first sector tells; whether a record may be so long Span says.
func headOf(s [api.Sector]byte) (size int, mark [markBytes]byte) {
	return int(vec.Words(s[:lengthBytes])[0]), [markBytes]byte(s[markAt:])
}

// markOf is the mark of a log's record with this number (P14.2).
func markOf(gen uint32, number int) [markBytes]byte {
	mark := [markBytes]byte{markBytes - 1: markEnd}
	copy(mark[:], vec.Bytes(gen, uint32(number)))
	return mark
}

// filled is a sector with these bytes, filled up with 0 (P14.2).
func filled(b []byte) [api.Sector]byte {
	var s [api.Sector]byte
	copy(s[:], b)
	return s
}
