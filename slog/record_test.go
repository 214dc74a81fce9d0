package slog

import (
	"fmt"
	"math"
	"testing"

	"tabularium/api"
	"tabularium/disk"
)

// sizes are lengths of records at the edges of their sectors.
func sizes() []int {
	return []int{0, 1, 2, 50, 51, 52, 53, 114, 115, 116, 178, 179, 180, 255, 256, 257, 1000, 65535, 65536, 65587, 65588, 1<<18 - 1, 1 << 18}
}

// sample is n bytes without a short period and without a byte 0, others for each seed, so that a byte at a wrong place shows.
func sample(seed, n int) []byte {
	out := make([]byte, n)
	x := uint32(seed)*2654435761 + 1
	for i := range out {
		x = x*1664525 + 1013904223
		out[i] = byte(x>>24) | 1
	}
	return out
}

// laid is the sectors of b, byte by byte as the document says it.
func laid(b []byte, gen, number uint32) [][64]byte {
	out := make([][64]byte, 1)
	for i := range 4 {
		out[0][i] = byte(len(b) >> (8 * i))
		out[0][55+i] = byte(gen >> (8 * i))
		out[0][59+i] = byte(number >> (8 * i))
	}
	out[0][63] = 0xa5
	for i, c := range b {
		if i < 51 {
			out[0][4+i] = c
			continue
		}
		if (i-51)%64 == 0 {
			out = append(out, [64]byte{})
		}
		out[len(out)-1][(i-51)%64] = c
	}
	return out
}

// P14.1: how many sectors: counted up by one wherever the sectors that there are have no byte left.
func TestSpanOfEveryLength(t *testing.T) {
	span, left := 1, 51
	for n := range 1<<18 + 1 {
		if n > 0 && left == 0 {
			span, left = span+1, 64
		}
		if n > 0 {
			left--
		}
		if got := Span(n); got != span {
			t.Fatalf("Span(%d): %d, not %d", n, got, span)
		}
	}
}

// P14.1: the document's numbers, by hand.
func TestSpanAtTheEdges(t *testing.T) {
	for n, want := range map[int]int{0: 1, 1: 1, 51: 1, 52: 2, 115: 2, 116: 3, 179: 3, 180: 4, 1<<18 - 1: 4097, 1 << 18: 4097} {
		if got := Span(n); got != want {
			t.Errorf("Span(%d): %d, not %d", n, got, want)
		}
	}
}

// P14.1, P1: no record has such a length.
func TestSpanOfNoLength(t *testing.T) {
	for _, n := range []int{-1, -2, -51, -64, math.MinInt32, math.MinInt, math.MinInt + 1, 1<<18 + 1, 1<<18 + 2, 1 << 19, math.MaxInt32, math.MaxInt - 1, math.MaxInt} {
		if got := Span(n); got != 0 {
			t.Errorf("Span(%d): %d, not 0", n, got)
		}
	}
}

// P14.2: a record's sectors, by hand.
func TestASmallRecordsSector(t *testing.T) {
	d := dirty(3)
	mustFormat(t, d, 0, 3, 0x01020304)
	l := mustOpen(t, d, 0, 3, 0x01020304)
	mustAppend(t, l, []byte("abc"))
	want := [64]byte{0: 3, 4: 'a', 5: 'b', 6: 'c', 55: 4, 56: 3, 57: 2, 58: 1, 63: 0xa5}
	wantSectors(t, d, 0, want, [64]byte{})
	mustAppend(t, l, nil)
	wantSectors(t, d, 0, want, [64]byte{55: 4, 56: 3, 57: 2, 58: 1, 59: 1, 63: 0xa5}, [64]byte{})
}

// P14.2: the sectors of records of every edge, at the region's beginning and behind others.
func TestARecordsSectors(t *testing.T) {
	for _, n := range sizes() {
		for _, gen := range []uint32{0, 1, 0xa5, 1 << 8, 0xdeadbeef, 1<<32 - 1} {
			span := len(laid(sample(n, n), 0, 0))
			d := dirty(span + 6)
			mustFormat(t, d, 2, span+3, gen)
			l := mustOpen(t, d, 2, span+3, gen)
			mustAppend(t, l, []byte("ahead"))
			mustAppend(t, l, sample(n, n))
			want := append(laid([]byte("ahead"), gen, 0), laid(sample(n, n), gen, 1)...)
			wantSectors(t, d, 2, append(want, [64]byte{})...)
		}
	}
}

// P14.2: the number goes on beyond its first byte, up to the greatest one that a disk has room for.
func TestNumbersOfManyRecords(t *testing.T) {
	const n = 65536
	d := dirty(n)
	mustFormat(t, d, 0, n, 5)
	l := mustOpen(t, d, 0, n, 5)
	for i := range n {
		mustAppend(t, l, []byte(fmt.Sprint(i)))
	}
	if l.Count() != n || l.Room() != 0 {
		t.Fatalf("Count %d, Room %d", l.Count(), l.Room())
	}
	for _, i := range []int{0, 1, 254, 255, 256, 257, 511, 512, 65279, 65280, 65534, 65535} {
		wantSectors(t, d, i, laid([]byte(fmt.Sprint(i)), 5, uint32(i))...)
	}
	m := mustOpen(t, d, 0, n, 5)
	if m.Count() != n || m.Room() != 0 || m.Append(nil) != api.ErrFull {
		t.Fatalf("opened again: Count %d, Room %d", m.Count(), m.Room())
	}
	i := 0
	for b := range m.Records() {
		if string(b) != fmt.Sprint(i) {
			t.Fatalf("record %d: %q", i, b)
		}
		i++
	}
}

// wantSectors fails unless the disk has these sectors from there on.
func wantSectors(t *testing.T, d *disk.Disk, from int, want ...[64]byte) {
	t.Helper()
	all := sectorsOf(d)
	for i, s := range want {
		if all[from+i] != s {
			t.Fatalf("sector %d: %x, not %x", from+i, all[from+i], s)
		}
	}
}
