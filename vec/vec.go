// Package vec is layer 1: bytes and words, side by side (shared/doc/01-vec.md).
package vec

import (
	"iter"
	"math/bits"
)

// wordBytes is how many bytes a word has.
const wordBytes = 4

// Xor holds a against b byte by byte, as far as the shorter one goes (P1.1).
func Xor(a, b []byte) []byte {
	out := make([]byte, min(len(a), len(b)))
	for i := range out {
		out[i] = a[i] ^ b[i]
	}
	return out
}

// Equal says whether a and b have as many bytes, and the same ones (P1.1).
// All bytes are looked at, so that the time of a check of a tag doesn't tell how much of it was right.
func Equal(a, b []byte) bool {
	if len(a) != len(b) {
		return false
	}
	var unlike byte
	for i := range a {
		unlike |= a[i] ^ b[i]
	}
	return unlike == 0
}

// Words makes a number of each four bytes, the lowest ahead; what is left over is left out (P1.2).
func Words(b []byte) []uint32 {
	out := make([]uint32, 0, len(b)/wordBytes)
	for p := range pieces(b, wordBytes) {
		if len(p) < wordBytes {
			break
		}
		out = append(out, uint32(p[0])|uint32(p[1])<<8|uint32(p[2])<<16|uint32(p[3])<<24)
	}
	return out
}

// Bytes makes four bytes of each number, the lowest ahead (P1.2).
func Bytes(l ...uint32) []byte {
	out := make([]byte, 0, wordBytes*len(l))
	for _, x := range l {
		out = append(out, byte(x), byte(x>>8), byte(x>>16), byte(x>>24))
	}
	return out
}

// Rol turns x up by n bits, n counting modulo 32; by one below 0 it is turned down (P1.3).
func Rol(x uint32, n int) uint32 {
	return bits.RotateLeft32(x, n)
}

// Chunks tells b in pieces of n bytes, the last one as long as what is left; nothing, if n is below 1 (P1.4).
// It goes through a copy, so that a change to b behind the call isn't told,
// and hands out copies of that, so that a change to a piece isn't told the next time.
func Chunks(b []byte, n int) iter.Seq[[]byte] {
	own := clone(b)
	return func(yield func([]byte) bool) {
		for p := range pieces(own, n) {
			if !yield(clone(p)) {
				return
			}
		}
	}
}

// pieces tells b as Chunks does, but in b's own memory: for those within who only read.
func pieces(b []byte, n int) iter.Seq[[]byte] {
	return func(yield func([]byte) bool) {
		if n < 1 {
			return
		}
		rest := b
		for len(rest) > 0 {
			size := min(n, len(rest))
			if !yield(rest[:size]) {
				return
			}
			rest = rest[size:]
		}
	}
}

// clone is b in memory of its own, with no room behind its length.
func clone(b []byte) []byte {
	out := make([]byte, len(b))
	copy(out, b)
	return out
}
