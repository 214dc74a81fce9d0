package slog

import (
	"bytes"
	"testing"

	"tabularium/api"
	"tabularium/disk"
)

// appendAll appends till something fails, and tells how many said OK.
func appendAll(l *Log, all [][]byte) int {
	for i, b := range all {
		if l.Append(b) != api.OK {
			return i
		}
	}
	return len(all)
}

// wantWhole fails unless Open tells the first ok of all, and at most the one behind them, whole; it answers how many.
func wantWhole(t *testing.T, d *disk.Disk, from, n int, gen uint32, all [][]byte, ok int) int {
	t.Helper()
	got := recordsOf(mustOpen(t, d, from, n, gen))
	if len(got) != ok && (len(got) != ok+1 || len(got) > len(all)) {
		t.Fatalf("%d records behind a crash, %d of them said OK", len(got), ok)
	}
	for i, b := range got {
		if !bytes.Equal(b, all[i]) {
			t.Fatalf("record %d of %d: %x, not %x", i, ok, b, all[i])
		}
	}
	return len(got)
}

// scripts are records to append to regions of 12 sectors, at the edges of sectors.
func scripts() [][][]byte {
	mark := laid([]byte("taken for a record"), 7, 1)[0]
	return [][][]byte{
		{[]byte("a"), sample(1, 120), nil},
		{sample(2, 51), sample(3, 52), sample(4, 115), sample(5, 116), sample(6, 40)},
		{sample(7, 51+64*11)},
		{nil, nil, nil, nil, nil, nil, nil, nil, nil, nil, nil, nil},
		{append(sample(8, 51), mark[:]...), append(sample(9, 51), mark[:]...), []byte("b")},
	}
}

// stale fills the disk's region with what another log has left there, of the same gen: marks that are due at each place.
func stale(t *testing.T, d *disk.Disk, from, n int, gen uint32) {
	t.Helper()
	for i := range n {
		put(t, d, from+i, laid(sample(500+i, 20), gen, uint32(i))[0])
	}
}

// What stood in a region ahead of its Format.
const (
	noughts = iota
	anyBytes
	oldMarks
)

// crashed is a disk of 16 sectors with a region of 12 from 2 on, formatted over what was there before; then the crash is ahead.
func crashed(t *testing.T, before int, crash api.Crash) *disk.Disk {
	t.Helper()
	d := dirty(16, api.Crash{After: -1}, crash)
	switch before {
	case noughts:
		put(t, d, 2, make([][64]byte, 12)...)
	case oldMarks:
		stale(t, d, 2, 12, 7)
	}
	mustFormat(t, d, 2, 12, 7)
	d.Start()
	return d
}

// P14.5: the power goes at every write and keeps every part of it, over noughts, over any bytes and over an older log's marks.
func TestWholeWhateverCrashStrikes(t *testing.T) {
	for _, all := range scripts() {
		for _, before := range []int{noughts, anyBytes, oldMarks} {
			for after := range 30 {
				for keep := -1; keep <= 65; keep++ {
					d := crashed(t, before, api.Crash{After: after, Keep: keep})
					ok := appendAll(mustOpen(t, d, 2, 12, 7), all)
					if d.Dead() == (ok == len(all)) {
						t.Fatalf("Dead %t behind %d of %d", d.Dead(), ok, len(all))
					}
					d.Start()
					wantWhole(t, d, 2, 12, 7, all, ok)
				}
			}
		}
	}
}

// P14.5: the one behind those that said OK is there just if the power went at its last write, and all of that was kept.
func TestTheOneBehindIsThereOnlyIfItsMarkIs(t *testing.T) {
	b := sample(1, 120)
	for after := range 4 {
		for keep := range 65 {
			d := crashed(t, oldMarks, api.Crash{After: 2 + after, Keep: keep})
			l := mustOpen(t, d, 2, 12, 7)
			mustAppend(t, l, []byte("a"))
			if e := l.Append(b); e != api.ErrCrash {
				t.Fatalf("error %d, not ErrCrash", e)
			}
			d.Start()
			want := [][]byte{[]byte("a")}
			room := 11
			if after == 3 && keep == 64 {
				want, room = append(want, b), 8
			}
			wantLog(t, mustOpen(t, d, 2, 12, 7), room, want...)
		}
	}
}

// P14.5: crash behind crash, with records of other lengths tried at the same place: none of what was torn shows.
func TestWholeBehindCrashUponCrash(t *testing.T) {
	lengths := []int{0, 20, 51, 52, 100, 116, 180}
	for _, one := range lengths {
		for _, other := range lengths {
			for first := range 5 {
				for second := range 5 {
					for _, keeps := range [][2]int{{63, 63}, {64, 63}, {63, 64}, {30, 62}, {62, 58}, {55, 59}, {0, 63}, {64, 0}} {
						d := dirty(16, api.Crash{After: -1}, api.Crash{After: first, Keep: keeps[0]}, api.Crash{After: second, Keep: keeps[1]})
						stale(t, d, 2, 12, 7)
						mustFormat(t, d, 2, 12, 7)
						d.Start()
						tryTwice(t, d, sample(1, one), sample(2, other))
					}
				}
			}
		}
	}
}

// tryTwice appends one till the power goes, then other, then goes on; it fails if anything but whole records is told.
func tryTwice(t *testing.T, d *disk.Disk, one, other []byte) {
	t.Helper()
	var all [][]byte
	for _, b := range [][]byte{one, other} {
		l := mustOpen(t, d, 2, 12, 7)
		tried := append(append([][]byte{}, all...), b, b)
		ok := len(all) + appendAll(l, tried[len(all):])
		d.Start()
		all = tried[:wantWhole(t, d, 2, 12, 7, tried, ok)]
	}
	l := mustOpen(t, d, 2, 12, 7)
	if e := l.Append([]byte("on")); e != api.OK && e != api.ErrFull {
		t.Fatalf("error %d behind the last crash", e)
	} else if e == api.OK {
		all = append(all, []byte("on"))
	}
	if n := wantWhole(t, d, 2, 12, 7, all, len(all)); n != len(all) {
		t.Fatalf("%d records, not %d", n, len(all))
	}
}

// P14.1 to P14.5: drawn runs on a region with many crashes: what said OK stays, whatever is tried behind it.
func TestDrawnRuns(t *testing.T) {
	for seed := range 300 {
		x := uint32(seed)*2654435761 + 7
		next := func(n int) int {
			x = x*1664525 + 1013904223
			return int(x>>8) % n
		}
		crashes := []api.Crash{{After: -1}}
		for range 20 {
			crashes = append(crashes, api.Crash{After: next(12), Keep: next(68) - 2})
		}
		n := 2 + next(40)
		d := dirty(n+4, crashes...)
		if next(2) == 0 {
			stale(t, d, 3, n, 7)
		}
		mustFormat(t, d, 3, n, 7)
		d.Start()
		drawnRun(t, d, n, next)
	}
}

// drawnRun appends till the power goes, starts and opens again, over and over, and holds what is told against what was appended.
func drawnRun(t *testing.T, d *disk.Disk, n int, next func(int) int) {
	t.Helper()
	outside := append(sectorsOf(d)[:3], sectorsOf(d)[3+n])
	var all [][]byte
	for range 25 {
		l := mustOpen(t, d, 3, n, 7)
		for range 10 {
			b := sample(next(1000), next(300))
			full := len(laid(b, 0, 0)) > l.Room()
			e := l.Append(b)
			if full != (e == api.ErrFull) {
				t.Fatalf("Append of %d bytes with Room %d: error %d", len(b), l.Room(), e)
			}
			if e == api.OK {
				all = append(all, b)
			}
			if e == api.ErrCrash {
				d.Start()
				tried := append(append([][]byte{}, all...), b)
				all = tried[:wantWhole(t, d, 3, n, 7, tried, len(all))]
				break
			}
		}
		if got := wantWhole(t, d, 3, n, 7, all, len(all)); got != len(all) {
			t.Fatalf("%d records, not %d", got, len(all))
		}
	}
	now := append(sectorsOf(d)[:3], sectorsOf(d)[3+n])
	for i := range outside {
		if now[i] != outside[i] {
			t.Fatal("a sector outside the region was written")
		}
	}
}
