package disk

import (
	"math"
	"slices"
	"testing"

	"tabularium/api"
)

// sample is a sector without a short period and without a byte 0, another one for each seed, so that a byte at a wrong place shows.
func sample(seed int) [64]byte {
	var out [64]byte
	x := uint32(seed)*2654435761 + 1
	for i := range out {
		x = x*1664525 + 1013904223
		out[i] = byte(x>>24) | 1
	}
	return out
}

// wrongPlaces are numbers that no sector of a disk of n has.
func wrongPlaces(n int) []int {
	return []int{-1, -2, -n, -n - 1, n, n + 1, 65536, 1 << 20, math.MaxInt32, math.MinInt32, math.MaxInt, math.MinInt, math.MinInt + 1}
}

// unmade are disks that nobody made, by what they are.
func unmade() map[string]*Disk {
	return map[string]*Disk{"nil": nil, "zero value": {}}
}

// told is what Sectors tells; it fails unless the numbers come from 0 on, one behind the other.
func told(t *testing.T, d *Disk) [][64]byte {
	t.Helper()
	var out [][64]byte
	for i, s := range d.Sectors() {
		if i != len(out) {
			t.Fatalf("number %d is told at the place %d", i, len(out))
		}
		out = append(out, s)
	}
	return out
}

// wantTold fails unless Sectors tells just want, and Len so many.
func wantTold(t *testing.T, d *Disk, want ...[64]byte) {
	t.Helper()
	got := told(t, d)
	if d.Len() != len(want) || len(got) != len(want) {
		t.Fatalf("Len %d, %d sectors are told, not %d", d.Len(), len(got), len(want))
	}
	for i := range want {
		if got[i] != want[i] {
			t.Fatalf("sector %d: %x, not %x", i, got[i], want[i])
		}
	}
}

// wantState fails unless Writes and Dead are so.
func wantState(t *testing.T, d *Disk, writes int, dead bool) {
	t.Helper()
	if d.Writes() != writes || d.Dead() != dead {
		t.Fatalf("Writes %d, Dead %t, not %d, %t", d.Writes(), d.Dead(), writes, dead)
	}
}

// wantRead fails unless the sector i is read as want, twice.
func wantRead(t *testing.T, d *Disk, i int, want [64]byte) {
	t.Helper()
	for range 2 {
		if got, e := d.Read(i); e != api.OK || got != want {
			t.Fatalf("Read(%d): %x, error %d, not %x", i, got, e, want)
		}
	}
}

// wantRefused fails unless Read and Write of i answer that error alone, and change nothing.
func wantRefused(t *testing.T, d *Disk, i int, want api.Errno) {
	t.Helper()
	was, writes, dead := told(t, d), d.Writes(), d.Dead()
	if got, e := d.Read(i); e != want || got != ([64]byte{}) {
		t.Fatalf("Read(%d): %x, error %d, not error %d alone", i, got, e, want)
	}
	if e := d.Write(i, sample(99)); e != want {
		t.Fatalf("Write(%d): error %d, not %d", i, e, want)
	}
	wantState(t, d, writes, dead)
	wantTold(t, d, was...)
}

// write writes and fails unless that says OK and counts.
func write(t *testing.T, d *Disk, i int, s [64]byte) {
	t.Helper()
	writes := d.Writes()
	if e := d.Write(i, s); e != api.OK {
		t.Fatalf("Write(%d): error %d", i, e)
	}
	wantState(t, d, writes+1, false)
}

// crash writes and fails unless the power goes by that, uncounted.
func crash(t *testing.T, d *Disk, i int, s [64]byte) {
	t.Helper()
	writes := d.Writes()
	if e := d.Write(i, s); e != api.ErrCrash {
		t.Fatalf("Write(%d): error %d, not ErrCrash", i, e)
	}
	wantState(t, d, writes, true)
}

// P13.1: so many sectors of bytes 0, with power.
func TestNewHasSectorsOfNoughts(t *testing.T) {
	for _, n := range []int{0, 1, 2, 3, 63, 64, 65, 1000} {
		d := New(n)
		wantState(t, d, 0, false)
		wantTold(t, d, make([][64]byte, n)...)
		for i := range n {
			wantRead(t, d, i, [64]byte{})
		}
		for _, i := range wrongPlaces(n) {
			wantRefused(t, d, i, api.ErrSector)
		}
	}
}

// P13.1: below 0 none, above 65,536 so many.
func TestNewAtTheEdges(t *testing.T) {
	for n, want := range map[int]int{
		-1: 0, -65536: 0, math.MinInt32: 0, math.MinInt: 0, math.MinInt + 1: 0,
		65535: 65535, 65536: 65536, 65537: 65536, 1 << 20: 65536, math.MaxInt32: 65536, math.MaxInt - 1: 65536, math.MaxInt: 65536,
	} {
		d := New(n)
		wantState(t, d, 0, false)
		if got := len(told(t, d)); d.Len() != want || got != want {
			t.Fatalf("New(%d): Len %d, %d sectors are told, not %d", n, d.Len(), got, want)
		}
		wantRefused(t, d, want, api.ErrSector)
		wantRefused(t, d, -1, api.ErrSector)
		if want > 0 {
			write(t, d, want-1, sample(1))
			wantRead(t, d, want-1, sample(1))
		}
	}
}

// P13.1: no sectors, but somebody made it: it has power, and a Clone, and may be started.
func TestADiskOfNoSectors(t *testing.T) {
	for _, n := range []int{0, -1} {
		d := New(n, api.Crash{})
		for range 3 {
			wantState(t, d, 0, false)
			wantTold(t, d)
			wantRefused(t, d, 0, api.ErrSector) // not ErrCrash: a crash strikes a sector
			c := d.Clone()
			if c == nil || c == d {
				t.Fatal("no Clone of a disk of no sectors")
			}
			wantState(t, c, 0, false)
			wantRefused(t, c, 0, api.ErrSector)
			d.Start()
		}
	}
}

// P13.1, P3: no crashes are none, however they are given.
func TestNewOfNoCrashes(t *testing.T) {
	for _, l := range [][]api.Crash{nil, {}, make([]api.Crash, 0, 5)} {
		d := New(1, l...)
		for i := range 100 {
			write(t, d, 0, sample(i))
		}
		d.Start()
		write(t, d, 0, sample(5))
	}
}

// P13.2: what was written last is read, there and nowhere else.
func TestWriteAndRead(t *testing.T) {
	const n = 5
	d := New(n)
	want := make([][64]byte, n)
	for round := range 3 {
		for i := range n {
			at := (i*3 + round) % n
			want[at] = sample(round*n + i)
			write(t, d, at, want[at])
			wantTold(t, d, want...)
			for k := range n {
				wantRead(t, d, k, want[k])
			}
		}
	}
	wantState(t, d, 3*n, false)
	write(t, d, 2, [64]byte{})
	want[2] = [64]byte{}
	wantTold(t, d, want...)
}

// P13.1, P13.2: writes that said OK are counted, also of the same; reads and refusals are not.
func TestWritesCounts(t *testing.T) {
	d := New(2)
	for i := range 10 {
		write(t, d, 1, sample(1))
		wantRead(t, d, 1, sample(1))
		wantRefused(t, d, 2, api.ErrSector)
		wantRefused(t, d, -1, api.ErrSector)
		told(t, d)
		wantState(t, d, i+1, false)
	}
}

// P13.2, P1: numbers that no sector has, with power and without: that there is none comes first.
func TestWrongPlaces(t *testing.T) {
	for n := range 4 {
		d := New(n+1, api.Crash{After: 1, Keep: 64})
		write(t, d, n, sample(1))
		for _, i := range wrongPlaces(n + 1) {
			wantRefused(t, d, i, api.ErrSector)
		}
		crash(t, d, 0, sample(2))
		for _, i := range append(wrongPlaces(n+1), 0, n) {
			wantRefused(t, d, i, api.ErrCrash)
		}
		d.Start()
		for _, i := range wrongPlaces(n + 1) {
			wantRefused(t, d, i, api.ErrSector)
		}
	}
}

// P13.3: Sectors tells what there is, with power and without.
func TestSectorsWithoutPower(t *testing.T) {
	d := New(3, api.Crash{After: 1, Keep: 64})
	write(t, d, 0, sample(1))
	crash(t, d, 2, sample(2))
	wantTold(t, d, sample(1), [64]byte{}, sample(2))
	wantState(t, d, 1, true)
	d.Start()
	wantTold(t, d, sample(1), [64]byte{}, sample(2))
}

// P5: left at every place, gone through again, and within itself.
func TestSectorsLeftAndGoneThroughAgain(t *testing.T) {
	const n = 6
	d := New(n)
	for i := range n {
		write(t, d, i, sample(i))
	}
	all := d.Sectors()
	for stop := range n {
		count := 0
		for i, s := range all {
			if i != count || s != sample(i) {
				t.Fatalf("at %d: number %d, %x", count, i, s)
			}
			count++
			if i == stop {
				break
			}
		}
		if count != stop+1 {
			t.Fatalf("left at %d behind %d", stop, count)
		}
	}
	pairs := 0
	for i, s := range all {
		for k, r := range all {
			if (s == r) != (i == k) {
				t.Fatalf("%d, %d: %x, %x", i, k, s, r)
			}
			pairs++
		}
	}
	if pairs != n*n {
		t.Fatal(pairs)
	}
}

// P2: what was told to be told is not changed by the disk's going on.
func TestSectorsTellsWhatThereWas(t *testing.T) {
	d := New(3, api.Crash{After: 3, Keep: 10})
	write(t, d, 1, sample(1))
	was := d.Sectors()
	now := func() [][64]byte {
		var out [][64]byte
		for _, s := range was {
			out = append(out, s)
		}
		return out
	}
	want := [][64]byte{{}, sample(1), {}}
	write(t, d, 0, sample(2))
	write(t, d, 1, sample(3))
	if got := now(); !slices.Equal(got, want) {
		t.Fatalf("behind writes: %x", got)
	}
	crash(t, d, 2, sample(4))
	d.Start()
	if got := now(); !slices.Equal(got, want) {
		t.Fatalf("behind a crash: %x", got)
	}
	for i := range was { // written to while it is gone through
		write(t, d, (i+1)%3, sample(5))
	}
	if got := now(); !slices.Equal(got, want) {
		t.Fatalf("behind writes within: %x", got)
	}
	wantTold(t, d, sample(5), sample(5), sample(5))
}

// P2: what is read is the reader's own.
func TestReadSharesNothing(t *testing.T) {
	d := New(1)
	write(t, d, 0, sample(1))
	s, _ := d.Read(0)
	clear(s[:])
	for _, r := range d.Sectors() {
		clear(r[:])
	}
	wantRead(t, d, 0, sample(1))
	wantTold(t, d, sample(1))
}

// P13.3: of a disk that nobody made there is nothing, whatever is done to it.
func TestADiskThatNobodyMade(t *testing.T) {
	for what, d := range unmade() {
		t.Run(what, func(t *testing.T) {
			for range 3 { // the second time behind a Start
				wantState(t, d, 0, true)
				wantTold(t, d)
				for _, i := range append(wrongPlaces(0), 0, 1) {
					wantRefused(t, d, i, api.ErrCrash)
				}
				if c := d.Clone(); c != nil {
					t.Fatal("it has a Clone")
				}
				d.Start()
			}
		})
	}
}
