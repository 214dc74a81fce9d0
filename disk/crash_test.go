package disk

import (
	"math"
	"slices"
	"testing"

	"tabularium/api"
)

// torn is what becomes of was, if s is written over it and the power goes: byte by byte, as the document says it.
func torn(was, s [64]byte, keep int) [64]byte {
	out := was
	for i := range out {
		if i < keep {
			out[i] = s[i]
		}
	}
	return out
}

// P13.2, P13.3: the document's example.
func TestOneSectorTorn(t *testing.T) {
	d := New(1, api.Crash{After: 0, Keep: 1})
	var sevens [64]byte
	for i := range sevens {
		sevens[i] = 7
	}
	crash(t, d, 0, sevens)
	d.Start()
	wantRead(t, d, 0, [64]byte{7})
}

// P13.2, P13.4: every Keep around a sector's ends and beyond, over noughts and over another text.
func TestEveryKeep(t *testing.T) {
	keeps := []int{math.MinInt, math.MinInt + 1, math.MinInt32, -65, -64, 128, 256, 1 << 20, math.MaxInt32, math.MaxInt - 1, math.MaxInt}
	for k := -3; k <= 67; k++ {
		keeps = append(keeps, k)
	}
	for _, keep := range keeps {
		for _, was := range [][64]byte{{}, sample(1)} {
			d := New(3, api.Crash{After: 3, Keep: keep})
			write(t, d, 0, sample(2))
			write(t, d, 1, was)
			write(t, d, 2, sample(3))
			crash(t, d, 1, sample(4))
			want := [][64]byte{sample(2), torn(was, sample(4), keep), sample(3)}
			wantTold(t, d, want...)
			d.Start()
			wantState(t, d, 0, false)
			wantTold(t, d, want...)
			wantRead(t, d, 1, want[1])
		}
	}
}

// P13.4: a crash at every write and at every sector changes that one alone.
func TestACrashChangesOneSector(t *testing.T) {
	const n = 4
	for after := range 6 {
		for at := range n {
			d := New(n, api.Crash{After: after, Keep: 20})
			want := make([][64]byte, n)
			for i := range after {
				want[i%n] = sample(i)
				write(t, d, i%n, want[i%n])
			}
			crash(t, d, at, sample(50))
			want[at] = torn(want[at], sample(50), 20)
			wantTold(t, d, want...)
			for i := range n { // nothing more is written without power
				wantRefused(t, d, i, api.ErrCrash)
			}
			wantTold(t, d, want...)
		}
	}
}

// P13.2: at the write that is due, neither earlier nor later, whichever sector that is of.
func TestACrashStrikesAfterSoManyWrites(t *testing.T) {
	for after := range 70 {
		d := New(2, api.Crash{After: after, Keep: 64})
		for i := range after {
			write(t, d, i%2, sample(i))
		}
		wantRefused(t, d, 2, api.ErrSector) // strikes nothing, and counts nothing
		wantRead(t, d, 1, told(t, d)[1])
		crash(t, d, 1, sample(after))
		if d.Writes() != after {
			t.Fatalf("Writes %d behind a crash after %d", d.Writes(), after)
		}
	}
}

// P13.2, P1: a crash that never comes up holds up those behind it, until a Start takes it away.
func TestACrashThatNeverStrikes(t *testing.T) {
	for _, after := range []int{-1, -2, math.MinInt32, math.MinInt, 100, math.MaxInt32, math.MaxInt} {
		d := New(1, api.Crash{After: after, Keep: 64}, api.Crash{After: 0, Keep: 2})
		for i := range 50 {
			write(t, d, 0, sample(i))
		}
		d.Start()
		wantState(t, d, 0, false)
		crash(t, d, 0, sample(60))
		wantTold(t, d, torn(sample(49), sample(60), 2))
	}
}

// P13.1: of several crashes the first alone may strike, were the others due earlier.
func TestOnlyTheFirstCrashStrikes(t *testing.T) {
	d := New(1, api.Crash{After: 3, Keep: 5}, api.Crash{After: 1, Keep: 6}, api.Crash{After: 0, Keep: 7}, api.Crash{After: 2, Keep: 8})
	last := [64]byte{}
	for i, x := range []api.Crash{{After: 3, Keep: 5}, {After: 1, Keep: 6}, {After: 0, Keep: 7}, {After: 2, Keep: 8}} {
		for k := range x.After {
			last = sample(10*i + k)
			write(t, d, 0, last)
		}
		crash(t, d, 0, sample(10*i+9))
		last = torn(last, sample(10*i+9), x.Keep)
		wantTold(t, d, last)
		d.Start()
		wantState(t, d, 0, false)
	}
	for i := range 20 {
		write(t, d, 0, sample(i))
	}
}

// P13.3: a Start takes the first crash away, struck or not, and only one.
func TestStartTakesOneCrash(t *testing.T) {
	l := []api.Crash{{After: 2, Keep: 1}, {After: 2, Keep: 2}, {After: 2, Keep: 3}}
	for starts := range 6 {
		d := New(1, l...)
		for range starts {
			write(t, d, 0, sample(1))
			d.Start()
			wantState(t, d, 0, false)
			wantTold(t, d, sample(1))
		}
		write(t, d, 0, sample(2))
		write(t, d, 0, sample(3))
		if starts >= len(l) {
			write(t, d, 0, sample(4))
			continue
		}
		crash(t, d, 0, sample(4))
		wantTold(t, d, torn(sample(3), sample(4), l[starts].Keep))
	}
}

// P13.3: Starts one behind the other, with power and without, beyond the last crash.
func TestStartAgainAndAgain(t *testing.T) {
	d := New(1, api.Crash{After: 0, Keep: 1}, api.Crash{After: 0, Keep: 2})
	crash(t, d, 0, sample(1))
	for range 5 {
		d.Start()
		wantState(t, d, 0, false)
		wantTold(t, d, torn([64]byte{}, sample(1), 1))
	}
	write(t, d, 0, sample(2))
}

// P13.3: from any state on, a Clone goes on alike.
func TestCloneGoesOnAlike(t *testing.T) {
	for steps := range 12 {
		d := New(2, api.Crash{After: 2, Keep: 9}, api.Crash{After: 3, Keep: 30}, api.Crash{After: 0, Keep: 0})
		goOn(d, 0, steps)
		c := d.Clone()
		if c == nil || c == d {
			t.Fatalf("no Clone behind %d steps", steps)
		}
		wantState(t, c, d.Writes(), d.Dead())
		wantTold(t, c, told(t, d)...)
		e := c.Clone()
		first, second, third := goOn(d, steps, 30), goOn(c, steps, 30), goOn(e, steps, 30)
		if !slices.Equal(first, second) || !slices.Equal(first, third) {
			t.Fatalf("behind %d steps: %v, but Clones %v and %v", steps, first, second, third)
		}
		wantState(t, c, d.Writes(), d.Dead())
		wantTold(t, c, told(t, d)...)
	}
}

// goOn writes from a step on, and starts the disk at every sixth; it tells the answers.
func goOn(d *Disk, from, steps int) []api.Errno {
	var out []api.Errno
	for i := from; i < from+steps; i++ {
		if i%6 == 5 {
			d.Start()
		}
		out = append(out, d.Write(i%2, sample(i)))
	}
	return out
}

// P13.3: by itself: neither of the two sees what becomes of the other.
func TestCloneGoesByItself(t *testing.T) {
	d := New(2, api.Crash{After: 1, Keep: 3}, api.Crash{After: 0, Keep: 4})
	write(t, d, 0, sample(1))
	c := d.Clone()
	crash(t, d, 1, sample(2))
	wantState(t, c, 1, false)
	wantTold(t, c, sample(1), [64]byte{})
	dead := d.Clone()
	d.Start()
	wantState(t, dead, 1, true)
	wantRefused(t, dead, 0, api.ErrCrash)
	crash(t, c, 0, sample(3)) // the Clone's own first crash is still ahead
	wantTold(t, c, torn(sample(1), sample(3), 3), [64]byte{})
	wantState(t, d, 0, false)
	wantTold(t, d, sample(1), torn([64]byte{}, sample(2), 3))
	c.Start()
	c.Start()
	write(t, c, 1, sample(4))
	crash(t, d, 1, sample(5)) // and what the Clone's Starts took away is still ahead here
	wantTold(t, c, torn(sample(1), sample(3), 3), sample(4))
	dead.Start()
	wantTold(t, dead, sample(1), torn([64]byte{}, sample(2), 3))
}

// P2: the crashes that are given aren't changed, nor kept; what lies behind their length never strikes.
func TestNewKeepsCrashesOfItsOwn(t *testing.T) {
	all := []api.Crash{{After: 1, Keep: 1}, {After: 0, Keep: 2}, {After: 0, Keep: 3}}
	given := slices.Clone(all)
	d := New(1, given[:2]...)
	c := d.Clone()
	for _, x := range []*Disk{d, c} {
		clear(given)
		write(t, x, 0, sample(1))
		crash(t, x, 0, sample(2))
		x.Start()
		crash(t, x, 0, sample(3))
		wantTold(t, x, torn(torn(sample(1), sample(2), 1), sample(3), 2))
		x.Start()
		write(t, x, 0, sample(4))
		copy(given, all)
	}
	d = New(1, given...)
	crashes := 0
	for range 20 {
		if d.Write(0, sample(1)) == api.ErrCrash {
			crashes++
			d.Start()
		}
	}
	if crashes != 3 || !slices.Equal(given, all) {
		t.Fatalf("%d crashes; what was given became %v", crashes, given)
	}
}

// model is a disk as the document's sentences tell it, one by one.
type model struct {
	sectors map[int][64]byte
	n       int
	oks     int
	starts  int
	dead    bool
	crashes []api.Crash
}

func (m *model) read(i int) ([64]byte, api.Errno) {
	if m.dead {
		return [64]byte{}, api.ErrCrash
	}
	if i < 0 || i >= m.n {
		return [64]byte{}, api.ErrSector
	}
	return m.sectors[i], api.OK
}

func (m *model) write(i int, s [64]byte) api.Errno {
	if _, e := m.read(i); e != api.OK {
		return e
	}
	if m.starts < len(m.crashes) && m.crashes[m.starts].After == m.oks {
		m.dead = true
		m.sectors[i] = torn(m.sectors[i], s, m.crashes[m.starts].Keep)
		return api.ErrCrash
	}
	m.sectors[i] = s
	m.oks++
	return api.OK
}

func (m *model) start() {
	m.dead, m.oks = false, 0
	m.starts++
}

// P13.1 to P13.4: any calls, in any order, are answered as the document's sentences tell.
func TestByTheModel(t *testing.T) {
	for seed := range 200 {
		x := uint32(seed)*2654435761 + 7
		next := func(n int) int {
			x = x*1664525 + 1013904223
			return int(x>>8) % n
		}
		m := &model{sectors: map[int][64]byte{}, n: next(6)}
		for range next(5) {
			m.crashes = append(m.crashes, api.Crash{After: next(8) - 1, Keep: next(70) - 3})
		}
		playByTheModel(t, New(m.n, m.crashes...), m, next)
	}
}

// playByTheModel does the same to both, and fails where they are unlike.
func playByTheModel(t *testing.T, d *Disk, m *model, next func(int) int) {
	t.Helper()
	for step := range 80 {
		i, s := next(m.n+2)-1, sample(step)
		switch next(8) {
		case 0:
			d.Start()
			m.start()
		case 1:
			d = d.Clone()
		case 2, 3:
			got, e := d.Read(i)
			want, f := m.read(i)
			if got != want || e != f {
				t.Fatalf("step %d: Read(%d): %x, error %d, not %x, error %d", step, i, got, e, want, f)
			}
		default:
			if e, f := d.Write(i, s), m.write(i, s); e != f {
				t.Fatalf("step %d: Write(%d): error %d, not %d", step, i, e, f)
			}
		}
		wantState(t, d, m.oks, m.dead)
		var want [][64]byte
		for k := range m.n {
			want = append(want, m.sectors[k])
		}
		wantTold(t, d, want...)
	}
}
