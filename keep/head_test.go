package keep

import (
	"math"
	"testing"

	"tabularium/api"
	"tabularium/disk"
	"tabularium/suite"
)

// P18.1: the halves of disks of each length, counted out sector by sector.
func TestHalf(t *testing.T) {
	for size := range 300 {
		d := disk.New(size)
		n := 0
		for 2+2*(n+1) <= size {
			n++
		}
		want := [2][2]int{{2, n}, {2 + n, n}}
		if n < 2 {
			want = [2][2]int{}
		}
		for k := range 2 {
			if from, n := Half(d, k); from != want[k][0] || n != want[k][1] {
				t.Errorf("half %d of %d sectors: %d from %d on, not %d from %d on", k, size, n, from, want[k][1], want[k][0])
			}
		}
		for _, k := range []int{-1, -2, 2, 3, 4, math.MinInt, math.MaxInt} {
			if from, n := Half(d, k); from != 0 || n != 0 {
				t.Errorf("half %d of %d sectors: %d from %d on", k, size, n, from)
			}
		}
	}
}

// P18.1: halves by hand, and those of the longest disk.
func TestHalfByHand(t *testing.T) {
	for _, x := range [][4]int{{5, 0, 0, 0}, {5, 1, 0, 0}, {6, 0, 2, 2}, {6, 1, 4, 2}, {7, 1, 4, 2}, {8, 1, 5, 3}, {60, 0, 2, 29}, {61, 1, 31, 29}, {65536, 0, 2, 32767}, {65536, 1, 32769, 32767}} {
		if from, n := Half(disk.New(x[0]), x[1]); from != x[2] || n != x[3] {
			t.Errorf("half %d of %d sectors: %d from %d on", x[1], x[0], n, from)
		}
	}
}

// P18.1, P1: a disk that nobody made has no halves; one without power has.
func TestHalfOfStrangeDisks(t *testing.T) {
	for _, d := range []*disk.Disk{nil, {}} {
		for k := -1; k < 3; k++ {
			if from, n := Half(d, k); from != 0 || n != 0 {
				t.Errorf("%d from %d on", n, from)
			}
		}
	}
	d := disk.New(20, api.Crash{})
	d.Write(0, [64]byte{})
	if from, n := Half(d, 1); from != 11 || n != 9 {
		t.Errorf("without power: %d from %d on", n, from)
	}
}

// someGens are gens at the edges of their bytes.
func someGens() []uint32 {
	return []uint32{0, 1, 2, 3, 0xa5, 0xfe, 0xff, 0x100, 0x101, 0xffff, 0x10000, 0x1020304, 0xa5a5a5a5, 1<<24 - 1, 1 << 24, 1 << 31, math.MaxUint32 - 1, math.MaxUint32}
}

// P18.1: a head, byte by byte.
func TestSuper(t *testing.T) {
	for _, gen := range someGens() {
		var want [64]byte
		for i := range 4 {
			want[i], want[59+i] = byte(gen>>(8*i)), byte(gen>>(8*i))
		}
		want[63] = 0xa5
		if got := Super(gen); got != want {
			t.Errorf("Super(%d): %x, not %x", gen, got, want)
		}
	}
	if got := Super(0x04030201); got != ([64]byte{0: 1, 1: 2, 2: 3, 3: 4, 59: 1, 60: 2, 61: 3, 62: 4, 63: 0xa5}) {
		t.Errorf("%x", got)
	}
}

// withHeads is a disk with these two sectors ahead of halves without records.
func withHeads(a, b [64]byte) *disk.Disk {
	d := disk.New(20)
	d.Write(0, a)
	d.Write(1, b)
	return d
}

// P18.1, P18.2: each gen above 0 has a head, wherever the other sector has none.
func TestHeads(t *testing.T) {
	for _, gen := range someGens() {
		for _, other := range [][64]byte{{}, Super(0), {0: 9, 63: 0xa5}, {0: 0xff, 1: 0xff, 2: 0xff, 3: 0xff}, mark(7, 7)} {
			d := withHeads(other, Super(gen))
			if gen%2 == 0 {
				d = withHeads(Super(gen), other)
			}
			h, e := Open(suite.New(api.Real, nil), d)
			if gen == 0 {
				if e != api.ErrLog || h != nil {
					t.Errorf("gen 0: error %d", e)
				}
				continue
			}
			if e != api.OK || h.Gen() != gen {
				t.Errorf("gen %d: error %d, Gen %d", gen, e, h.Gen())
			}
		}
	}
}

// P18.1, P18.2: a sector that differs from a head in one bit is none.
func TestNoHeads(t *testing.T) {
	for _, gen := range []uint32{1, 2, 0x100, 0x01020304, 0xa5a5a5a5} {
		for i := range 512 {
			s := Super(gen)
			s[i/8] ^= 1 << (i % 8)
			for _, d := range []*disk.Disk{withHeads(s, [64]byte{}), withHeads([64]byte{}, s), withHeads(s, s)} {
				if h, e := Open(suite.New(api.Real, nil), d); e != api.ErrLog || h != nil {
					t.Fatalf("gen %d, bit %d of byte %d: error %d, not ErrLog", gen, i%8, i/8, e)
				}
			}
			d := withHeads(s, Super(1))
			if h, e := Open(suite.New(api.Real, nil), d); e != api.OK || h.Gen() != 1 {
				t.Fatalf("gen %d, bit %d of byte %d, beside a head: error %d, Gen %d", gen, i%8, i/8, e, h.Gen())
			}
		}
	}
}

// P18.2: of two heads the greater one counts, in whichever sector it stands: as numbers, not byte by byte.
func TestTheGreaterHead(t *testing.T) {
	for _, a := range someGens() {
		for _, b := range someGens() {
			want := max(a, b)
			h, e := Open(suite.New(api.Real, nil), withHeads(Super(a), Super(b)))
			if want == 0 {
				if e != api.ErrLog {
					t.Errorf("gens 0 and 0: error %d", e)
				}
				continue
			}
			if e != api.OK || h.Gen() != want {
				t.Errorf("gens %d and %d: error %d, Gen %d", a, b, e, h.Gen())
			}
		}
	}
}
