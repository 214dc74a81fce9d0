package slog

import (
	"bytes"
	"math"
	"slices"
	"testing"

	"tabularium/api"
	"tabularium/disk"
)

// dirty is a disk of n sectors none of which is clean, with a crash to come behind its first Start, if one is given.
func dirty(n int, crashes ...api.Crash) *disk.Disk {
	d := disk.New(n, append([]api.Crash{{After: -1}}, crashes...)...)
	for i := range n {
		d.Write(i, [64]byte(sample(1000+i, 64)))
	}
	d.Start()
	return d
}

// sectorsOf is all that the disk has, with power or without.
func sectorsOf(d *disk.Disk) [][64]byte {
	var out [][64]byte
	for _, s := range d.Sectors() {
		out = append(out, s)
	}
	return out
}

func mustFormat(t *testing.T, d *disk.Disk, from, n int, gen uint32) {
	t.Helper()
	if e := Format(d, from, n, gen); e != api.OK {
		t.Fatalf("Format(%d, %d, %d): error %d", from, n, gen, e)
	}
}

func mustOpen(t *testing.T, d *disk.Disk, from, n int, gen uint32) *Log {
	t.Helper()
	l, e := Open(d, from, n, gen)
	if e != api.OK || l == nil {
		t.Fatalf("Open(%d, %d, %d): error %d, %v", from, n, gen, e, l)
	}
	return l
}

// mustAppend fails unless b is appended, and counted, and its sectors are taken from the room.
func mustAppend(t *testing.T, l *Log, b []byte) {
	t.Helper()
	count, room := l.Count(), l.Room()
	if e := l.Append(b); e != api.OK {
		t.Fatalf("Append of %d bytes: error %d", len(b), e)
	}
	if l.Count() != count+1 || l.Room() != room-Span(len(b)) {
		t.Fatalf("Count %d, Room %d behind %d, %d and %d bytes", l.Count(), l.Room(), count, room, len(b))
	}
}

// recordsOf is all that the log tells.
func recordsOf(l *Log) [][]byte {
	var out [][]byte
	for b := range l.Records() {
		out = append(out, b)
	}
	return out
}

// wantLog fails unless the log tells just these records, and so much room.
func wantLog(t *testing.T, l *Log, room int, want ...[]byte) {
	t.Helper()
	got := recordsOf(l)
	if l.Count() != len(want) || len(got) != len(want) || l.Room() != room {
		t.Fatalf("Count %d, %d records are told, Room %d, not %d and %d", l.Count(), len(got), l.Room(), len(want), room)
	}
	for i := range want {
		if !bytes.Equal(got[i], want[i]) {
			t.Fatalf("record %d: %x, not %x", i, got[i], want[i])
		}
	}
}

// wantRefused fails unless Append answers that error, and neither the log nor the disk changes.
func wantRefused(t *testing.T, l *Log, d *disk.Disk, b []byte, want api.Errno) {
	t.Helper()
	was, records, room, writes := sectorsOf(d), recordsOf(l), l.Room(), d.Writes()
	if e := l.Append(b); e != want {
		t.Fatalf("Append of %d bytes: error %d, not %d", len(b), e, want)
	}
	wantLog(t, l, room, records...)
	if !slices.Equal(sectorsOf(d), was) || d.Writes() != writes {
		t.Fatal("a refused record was written")
	}
}

// wantNoRegion fails unless neither Format nor Open takes these numbers, and nothing is written.
func wantNoRegion(t *testing.T, d *disk.Disk, from, n int, want api.Errno) {
	t.Helper()
	was, writes := sectorsOf(d), d.Writes()
	if e := Format(d, from, n, 1); e != want {
		t.Fatalf("Format(%d, %d): error %d, not %d", from, n, e, want)
	}
	if l, e := Open(d, from, n, 1); e != want || l != nil {
		t.Fatalf("Open(%d, %d): %v, error %d, not %d", from, n, l, e, want)
	}
	if !slices.Equal(sectorsOf(d), was) || d.Writes() != writes {
		t.Fatalf("Format(%d, %d) wrote", from, n)
	}
}

// P14.1: every region of small disks is one, and what isn't one is refused.
func TestWhichRegionsThereAre(t *testing.T) {
	for sectors := range 6 {
		for from := -3; from <= 8; from++ {
			for n := -3; n <= 8; n++ {
				d := dirty(sectors)
				if from < 0 || n < 2 || from+n > sectors {
					wantNoRegion(t, d, from, n, api.ErrRange)
					continue
				}
				mustFormat(t, d, from, n, 1)
				wantLog(t, mustOpen(t, d, from, n, 1), n)
			}
		}
	}
}

// P14.1, P1: numbers far beyond a disk, which could go round if they were added.
func TestRegionsThatGoRound(t *testing.T) {
	d := dirty(8)
	far := []int{math.MinInt, math.MinInt + 1, math.MinInt32, -8, -1, 9, 1 << 16, 1 << 20, math.MaxInt32, math.MaxInt - 1, math.MaxInt}
	for _, x := range far {
		for _, y := range append(far, 0, 2, 7, 8) {
			wantNoRegion(t, d, x, y, api.ErrRange)
			wantNoRegion(t, d, y, x, api.ErrRange)
		}
	}
}

// P14.1, P1: a disk that nobody made has no region.
func TestNoDiskHasNoRegion(t *testing.T) {
	for _, d := range []*disk.Disk{nil, {}, disk.New(0), disk.New(-1), disk.New(1)} {
		for _, from := range []int{-1, 0, 1, math.MaxInt, math.MinInt} {
			for _, n := range []int{-1, 0, 1, 2, math.MaxInt, math.MinInt} {
				wantNoRegion(t, d, from, n, api.ErrRange)
			}
		}
	}
}

// P14.1, P14.3, P4: without power the disk's error, but a region that isn't there is told first.
func TestRegionsWithoutPower(t *testing.T) {
	d := dirty(4, api.Crash{After: 0, Keep: 0})
	if d.Write(0, [64]byte{}) != api.ErrCrash {
		t.Fatal("there is power")
	}
	wantNoRegion(t, d, 0, 4, api.ErrCrash)
	wantNoRegion(t, d, 2, 2, api.ErrCrash)
	wantNoRegion(t, d, 0, 1, api.ErrRange)
	wantNoRegion(t, d, 1, 4, api.ErrRange)
	wantNoRegion(t, d, -1, 2, api.ErrRange)
}

// P14.3: one sector becomes bytes 0, and no other one changes; then there are no records, of whatever gen.
func TestFormat(t *testing.T) {
	for _, from := range []int{0, 1, 5} {
		for _, gen := range []uint32{0, 1, 1<<32 - 1} {
			d := dirty(8)
			want := sectorsOf(d)
			want[from] = [64]byte{}
			mustFormat(t, d, from, 3, gen)
			if !slices.Equal(sectorsOf(d), want) || d.Writes() != 1 {
				t.Fatalf("%d writes", d.Writes())
			}
			for _, g := range []uint32{0, 1, gen} {
				wantLog(t, mustOpen(t, d, from, 3, g), 3)
			}
		}
	}
}

// P14.3: Format's crash is its error, and what was kept of the write is there.
func TestFormatWhileThePowerGoes(t *testing.T) {
	for keep := range 65 {
		d := dirty(3, api.Crash{After: 0, Keep: keep})
		want := sectorsOf(d)
		clear(want[1][:keep])
		if e := Format(d, 1, 2, 1); e != api.ErrCrash {
			t.Fatalf("error %d", e)
		}
		if !slices.Equal(sectorsOf(d), want) {
			t.Fatalf("Keep %d", keep)
		}
	}
}

// P14.3: what was appended is opened again, as many times as one likes, and gone on with; Open writes nothing.
func TestOpenTellsWhatWasAppended(t *testing.T) {
	for from := range 3 {
		const n = 5000
		d := dirty(n + 4)
		mustFormat(t, d, from, n, 9)
		var all [][]byte
		room := n
		for i, size := range []int{0, 1, 51, 52, 115, 116, 0, 0, 3000, 1 << 18, 179, 180, 64} {
			l := mustOpen(t, d, from, n, 9)
			wantLog(t, l, room, all...)
			was, writes := sectorsOf(d), d.Writes()
			l = mustOpen(t, d, from, n, 9)
			if !slices.Equal(sectorsOf(d), was) || d.Writes() != writes {
				t.Fatal("Open wrote")
			}
			all = append(all, sample(i, size))
			mustAppend(t, l, all[i])
			room -= Span(size)
			wantLog(t, l, room, all...)
		}
		wantLog(t, mustOpen(t, d, from, n, 9), room, all...)
	}
}

// put lays sectors on a disk from there on.
func put(t *testing.T, d *disk.Disk, from int, l ...[64]byte) {
	t.Helper()
	for i, s := range l {
		if e := d.Write(from+i, s); e != api.OK {
			t.Fatalf("Write(%d): error %d", from+i, e)
		}
	}
}

// P14.3: the mark that is due: each of its bytes counts, and each bit of it, for the first record and for a later one.
func TestOpenAsksForTheWholeMark(t *testing.T) {
	for number := range uint32(3) {
		for at := 55; at < 64; at++ {
			for bit := range 8 {
				d := dirty(8)
				var want [][]byte
				for i := range uint32(4) {
					s := laid(sample(int(i), 5), 0x01a50300, i)[0]
					if i == number {
						s[at] ^= 1 << bit
					} else if i < number {
						want = append(want, sample(int(i), 5))
					}
					put(t, d, int(i), s)
				}
				wantLog(t, mustOpen(t, d, 0, 8, 0x01a50300), 8-int(number), want...)
			}
		}
	}
}

// P14.3: records of other gens and other numbers aren't told, though all else is right.
func TestOpenOfAnotherGen(t *testing.T) {
	for _, gen := range []uint32{0, 1, 6, 8, 7 << 8, 1<<32 - 1} {
		d := dirty(4)
		put(t, d, 0, laid([]byte("x"), 7, 0)[0], laid([]byte("y"), gen, 1)[0], laid([]byte("z"), 7, 2)[0])
		wantLog(t, mustOpen(t, d, 0, 4, 7), 3, []byte("x"))
		wantLog(t, mustOpen(t, d, 0, 4, gen), 4)
		wantLog(t, mustOpen(t, d, 1, 3, gen), 3)
		wantLog(t, mustOpen(t, d, 1, 3, 7), 3)
	}
}

// P14.3: where records end is told by marks alone: what a record is filled up with doesn't matter.
func TestOpenDoesNotAskWhatIsFilledUp(t *testing.T) {
	d := dirty(5)
	first, second := laid(sample(1, 3), 2, 0), laid(sample(2, 60), 2, 1)
	copy(first[0][7:55], sample(3, 48))
	copy(second[1][9:], sample(4, 55))
	put(t, d, 0, append(first, second...)...)
	wantLog(t, mustOpen(t, d, 0, 5, 2), 2, sample(1, 3), sample(2, 60))
}

// P14.3: sectors behind a first one are its record's, even if they look like a first one.
func TestOpenGoesFromRecordToRecord(t *testing.T) {
	inner := laid([]byte("inner"), 3, 1)[0]
	b := append(sample(1, 51), inner[:]...)
	d := dirty(6)
	mustFormat(t, d, 0, 6, 3)
	l := mustOpen(t, d, 0, 6, 3)
	mustAppend(t, l, b)
	wantLog(t, mustOpen(t, d, 0, 6, 3), 4, b)
	mustAppend(t, l, b)
	wantLog(t, mustOpen(t, d, 0, 6, 3), 2, b, b)
}

// withLength is a first sector that says another length.
func withLength(s [64]byte, n uint32) [64]byte {
	for i := range 4 {
		s[i] = byte(n >> (8 * i))
	}
	return s
}

// P14.3: a length whose Span is beyond the region ends the log, one that just fits doesn't.
func TestOpenOfLengthsAtTheRegionsEnd(t *testing.T) {
	for _, n := range []int{2, 3, 4} {
		for ahead := range 2 {
			most := 51 + 64*(n-ahead-1)
			for _, x := range []struct {
				size uint32
				fits bool
			}{{0, true}, {uint32(most - 1), true}, {uint32(most), true}, {uint32(most + 1), false}, {uint32(most + 64), false}, {1 << 18, false}, {1<<18 + 1, false}, {1 << 31, false}, {1<<32 - 1, false}, {1<<32 - 64, false}} {
				d := dirty(8)
				want := [][]byte{}
				room := n
				if ahead == 1 {
					put(t, d, 1, laid([]byte("a"), 4, 0)[0])
					want = append(want, []byte("a"))
					room--
				}
				put(t, d, 1+ahead, withLength(laid(sample(2, 51), 4, uint32(ahead))[0], x.size))
				if x.fits {
					want = append(want, wholeOf(d, 1+ahead, int(x.size)))
					room -= len(laid(make([]byte, x.size), 0, 0))
				}
				wantLog(t, mustOpen(t, d, 1, n, 4), room, want...)
			}
		}
	}
}

// wholeOf is a record of so many bytes that begins there, gathered sector by sector.
func wholeOf(d *disk.Disk, at, size int) []byte {
	all := sectorsOf(d)
	out := slices.Clone(all[at][4:55])
	for len(out) < size {
		at++
		out = append(out, all[at][:]...)
	}
	return out[:size]
}

// P14.3: a length above 2^18 ends the log also where there would be room for it.
func TestOpenOfLengthsThatNoRecordHas(t *testing.T) {
	for _, x := range []struct {
		size  uint32
		count int
	}{{1<<18 - 1, 1}, {1 << 18, 1}, {1<<18 + 1, 0}, {1<<18 + 64, 0}, {1 << 19, 0}, {1 << 24, 0}, {1 << 31, 0}, {1<<32 - 1, 0}} {
		d := disk.New(65536)
		put(t, d, 0, withLength(laid(sample(1, 51), 1, 0)[0], x.size))
		l := mustOpen(t, d, 0, 65536, 1)
		if l.Count() != x.count || l.Room() != 65536-4097*x.count {
			t.Fatalf("length %d: Count %d, Room %d", x.size, l.Count(), l.Room())
		}
	}
}

// P14.4: in the order of its writes: the power goes at each of them, and those ahead are there, the others not.
func TestAppendInTheOrderOfItsWrites(t *testing.T) {
	for _, size := range []int{0, 51, 52, 116, 300} {
		for spare := range 3 {
			b := sample(size, size)
			first, rest := laid(b, 8, 1)[0], laid(b, 8, 1)[1:]
			type write struct {
				at int
				s  [64]byte
			}
			var order []write
			for i, s := range rest {
				order = append(order, write{3 + i, s})
			}
			if spare > 0 {
				order = append(order, write{3 + len(rest), [64]byte{}})
			}
			order = append(order, write{2, first})
			for after := range len(order) + 1 {
				d := dirty(len(rest)+5, api.Crash{After: 2 + after, Keep: 0})
				put(t, d, 1, laid([]byte("a"), 8, 0)[0], [64]byte{})
				want := sectorsOf(d)
				for _, w := range order[:after] {
					want[w.at] = w.s
				}
				l := mustOpen(t, d, 1, 2+len(rest)+spare, 8)
				e := l.Append(b)
				if (e == api.OK) != (after == len(order)) || e != api.OK && e != api.ErrCrash {
					t.Fatalf("%d bytes, power goes after %d of %d: error %d", size, after, len(order), e)
				}
				if !slices.Equal(sectorsOf(d), want) || d.Writes() != 2+after {
					t.Fatalf("%d bytes, %d sectors to spare, power goes after %d of %d: sectors are unlike", size, spare, after, len(order))
				}
			}
		}
	}
}

// P14.4: more than 2^18 bytes are too long, however much room there is; that comes ahead of ErrFull.
func TestAppendOfTooLong(t *testing.T) {
	big, small := disk.New(5000), disk.New(2)
	for _, d := range []*disk.Disk{big, small} {
		l := mustOpen(t, d, 0, d.Len(), 1)
		for _, n := range []int{1<<18 + 1, 1<<18 + 2, 1 << 19, 1 << 20} {
			wantRefused(t, l, d, make([]byte, n), api.ErrLong)
		}
		mustAppend(t, l, []byte("still"))
	}
	l := mustOpen(t, big, 0, 5000, 2)
	mustAppend(t, l, sample(1, 1<<18))
	wantLog(t, mustOpen(t, big, 0, 5000, 2), 5000-4097, sample(1, 1<<18))
	wantRefused(t, l, big, make([]byte, 1<<18), api.ErrFull)
	wantRefused(t, l, big, make([]byte, 1<<18+1), api.ErrLong)
}

// P14.4: a record goes in just if its Span is left, to the last sector; behind ErrFull smaller ones still go in.
func TestAppendOfAsMuchAsIsLeft(t *testing.T) {
	for n := 2; n <= 6; n++ {
		for used := range n {
			d := dirty(n + 2)
			mustFormat(t, d, 1, n, 1)
			l := mustOpen(t, d, 1, n, 1)
			var want [][]byte
			for i := range used {
				want = append(want, sample(i, 20))
				mustAppend(t, l, want[i])
			}
			left := n - used
			most := 51 + 64*(left-1)
			wantRefused(t, l, d, make([]byte, most+1), api.ErrFull)
			wantRefused(t, l, d, make([]byte, most+64), api.ErrFull)
			wantRefused(t, l, d, make([]byte, 1<<18), api.ErrFull)
			want = append(want, sample(9, most))
			mustAppend(t, l, want[used])
			wantLog(t, l, 0, want...)
			wantRefused(t, l, d, nil, api.ErrFull)
			wantRefused(t, l, d, make([]byte, 1<<18+1), api.ErrLong)
			wantLog(t, mustOpen(t, d, 1, n, 1), 0, want...)
		}
	}
}

// P14.4: nothing outside the region is written, also where a record ends with it.
func TestAppendStaysInTheRegion(t *testing.T) {
	d := dirty(8)
	was := sectorsOf(d)
	mustFormat(t, d, 2, 4, 1)
	l := mustOpen(t, d, 2, 4, 1)
	for _, size := range []int{60, 0, 60, 51, 0} {
		l.Append(sample(size, size))
	}
	wantLog(t, l, 0, sample(60, 60), nil, sample(51, 51))
	now := sectorsOf(d)
	for _, i := range []int{0, 1, 6, 7} {
		if now[i] != was[i] {
			t.Fatalf("sector %d became %x", i, now[i])
		}
	}
}

// P14.4: behind a write's error ErrLog for ever, whatever is appended, the power back or not; its records are still told.
func TestErrLogForEver(t *testing.T) {
	d := dirty(9, api.Crash{After: 4, Keep: 30})
	mustFormat(t, d, 0, 9, 1)
	l := mustOpen(t, d, 0, 9, 1)
	mustAppend(t, l, []byte("a"))
	if e := l.Append(sample(1, 60)); e != api.ErrCrash {
		t.Fatalf("error %d, not ErrCrash", e)
	}
	for range 3 {
		for _, b := range [][]byte{nil, []byte("b"), make([]byte, 1<<18), make([]byte, 1<<18+1)} {
			wantRefused(t, l, d, b, api.ErrLog)
		}
		wantLog(t, l, 8, []byte("a"))
		d.Start()
	}
	m := mustOpen(t, d, 0, 9, 1)
	mustAppend(t, m, []byte("b"))
	wantRefused(t, l, d, []byte("c"), api.ErrLog)
	wantLog(t, m, 7, []byte("a"), []byte("b"))
}

// P14.4: neither ErrLong nor ErrFull ends a log, without power either; the write's error does.
func TestALogWithoutPower(t *testing.T) {
	d := dirty(4, api.Crash{After: 3, Keep: 0})
	mustFormat(t, d, 0, 4, 1)
	l := mustOpen(t, d, 0, 4, 1)
	mustAppend(t, l, []byte("a"))
	if d.Write(3, [64]byte{}) != api.ErrCrash {
		t.Fatal("there is power")
	}
	wantRefused(t, l, d, make([]byte, 1<<18+1), api.ErrLong)
	wantRefused(t, l, d, make([]byte, 1<<18), api.ErrFull)
	wantLog(t, l, 3, []byte("a"))
	c := d.Clone()
	c.Start()
	d.Start()
	mustAppend(t, l, []byte("b"))
	wantLog(t, mustOpen(t, d, 0, 4, 1), 2, []byte("a"), []byte("b"))
	wantLog(t, mustOpen(t, c, 0, 4, 1), 3, []byte("a"))
}

// P14.4: an Append that begins without power is a write's error, and ends the log.
func TestAnAppendWithoutPower(t *testing.T) {
	d := dirty(4, api.Crash{After: 1, Keep: 0})
	mustFormat(t, d, 0, 4, 1)
	l := mustOpen(t, d, 0, 4, 1)
	d.Write(3, [64]byte{})
	wantRefused(t, l, d, []byte("a"), api.ErrCrash)
	wantRefused(t, l, d, []byte("a"), api.ErrLog)
	d.Start()
	wantRefused(t, l, d, []byte("a"), api.ErrLog)
}

// P14.4, P1: a Log that nobody made.
func TestALogThatNobodyMade(t *testing.T) {
	for _, l := range []*Log{nil, {}} {
		for _, b := range [][]byte{nil, {}, []byte("a"), make([]byte, 1<<18), make([]byte, 1<<18+1)} {
			for range 2 {
				if e := l.Append(b); e != api.ErrLog {
					t.Fatalf("Append of %d bytes: error %d, not ErrLog", len(b), e)
				}
			}
		}
		wantLog(t, l, 0)
	}
}

// P5: Records may be left at any time, and gone through again.
func TestRecordsAreLeftAndGoneThroughAgain(t *testing.T) {
	d := disk.New(9)
	l := mustOpen(t, d, 0, 9, 1)
	want := []string{"a", "bb", "", "cccc"}
	for _, s := range want {
		mustAppend(t, l, []byte(s))
	}
	told := l.Records()
	for n := range len(want) + 1 {
		var got []string
		for b := range told {
			if len(got) == n {
				break
			}
			got = append(got, string(b))
		}
		if !slices.Equal(got, want[:n]) {
			t.Fatalf("left behind %d: %q", n, got)
		}
	}
	wantLog(t, l, 5, []byte("a"), []byte("bb"), nil, []byte("cccc"))
}

// P2, P5: Records tells those that there were at the call, also if one appends while going through them.
func TestRecordsWhileOneAppends(t *testing.T) {
	d := disk.New(9)
	l := mustOpen(t, d, 0, 9, 1)
	mustAppend(t, l, []byte("a"))
	mustAppend(t, l, []byte("b"))
	told := l.Records()
	for range 2 {
		n := 0
		for b := range told {
			mustAppend(t, l, append(b, '!'))
			n++
		}
		if n != 2 {
			t.Fatalf("%d records are told, not 2", n)
		}
	}
	wantLog(t, l, 3, []byte("a"), []byte("b"), []byte("a!"), []byte("b!"), []byte("a!"), []byte("b!"))
}

// P2, P3: a log is told from its own memory: neither a change to the disk's sectors nor a loss of power takes a record away.
func TestRecordsOutlastTheDisk(t *testing.T) {
	d := dirty(6, api.Crash{After: 6, Keep: 64})
	mustFormat(t, d, 0, 6, 1)
	l := mustOpen(t, d, 0, 6, 1)
	mustAppend(t, l, []byte("a"))
	mustAppend(t, mustOpen(t, d.Clone(), 0, 6, 1), []byte("not here"))
	m := mustOpen(t, d, 0, 6, 1)
	put(t, d, 0, [64]byte{}, [64]byte{}, [64]byte{})
	wantLog(t, l, 5, []byte("a"))
	wantLog(t, m, 5, []byte("a"))
	if d.Write(0, [64]byte{}) != api.ErrCrash {
		t.Fatal("there is power")
	}
	wantLog(t, l, 5, []byte("a"))
	wantLog(t, m, 5, []byte("a"))
}

// P2: what is given isn't kept, nor changed, nor read beyond its length; what is told isn't shared.
func TestMemoryOfItsOwn(t *testing.T) {
	for _, size := range []int{0, 3, 51, 52, 115, 200} {
		d := dirty(9)
		mustFormat(t, d, 0, 9, 1)
		l := mustOpen(t, d, 0, 9, 1)
		all := sample(size, size+100)
		given := slices.Clone(all)
		mustAppend(t, l, given[:size])
		if !bytes.Equal(given, all) {
			t.Fatal("what was given was changed")
		}
		wantSectors(t, d, 0, laid(all[:size], 1, 0)...)
		clear(given)
		wantLog(t, l, 9-Span(size), all[:size])
		for _, x := range []*Log{l, mustOpen(t, d, 0, 9, 1)} {
			for _, b := range append(recordsOf(x), recordsOf(x)...) {
				whole := b[:cap(b)]
				for i := range whole {
					whole[i] = 7
				}
				wantLog(t, x, 9-Span(size), all[:size])
			}
			mustAppend(t, x, []byte("next"))
			wantLog(t, x, 8-Span(size), all[:size], []byte("next"))
		}
	}
}

// P3: nil and empty bytes are the same record.
func TestNilAndEmptyAreTheSameRecord(t *testing.T) {
	a, b := dirty(4), dirty(4)
	for d, rec := range map[*disk.Disk][]byte{a: nil, b: {}} {
		mustFormat(t, d, 0, 4, 1)
		l := mustOpen(t, d, 0, 4, 1)
		mustAppend(t, l, rec)
		wantLog(t, l, 3, nil)
		wantLog(t, mustOpen(t, d, 0, 4, 1), 3, nil)
	}
	if !slices.Equal(sectorsOf(a), sectorsOf(b)) {
		t.Fatal("unlike sectors")
	}
}

// Two regions of one disk, side by side, with one gen, know nothing of each other.
func TestTwoRegionsOfOneDisk(t *testing.T) {
	d := dirty(8)
	mustFormat(t, d, 0, 4, 1)
	mustFormat(t, d, 4, 4, 1)
	a, b := mustOpen(t, d, 0, 4, 1), mustOpen(t, d, 4, 4, 1)
	mustAppend(t, b, []byte("b0"))
	mustAppend(t, a, sample(1, 51+64*3))
	mustAppend(t, b, []byte("b1"))
	wantRefused(t, a, d, nil, api.ErrFull)
	wantLog(t, mustOpen(t, d, 0, 4, 1), 0, sample(1, 51+64*3))
	wantLog(t, mustOpen(t, d, 4, 4, 1), 2, []byte("b0"), []byte("b1"))
}
