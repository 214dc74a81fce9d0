package tape

import (
	"bytes"
	"math"
	"slices"
	"testing"

	"tabularium/api"
)

// sample is n bytes without a short period, so that a byte at a wrong place shows.
func sample(n int) []byte {
	out := make([]byte, n)
	x := uint32(1)
	for i := range out {
		x = x*1664525 + 1013904223
		out[i] = byte(x >> 24)
	}
	return out
}

// unmade are tapes that nobody made, by what they are.
func unmade() map[string]*Tape {
	return map[string]*Tape{"nil": nil, "zero value": {}}
}

// wantTake fails unless Take(n) answers want, and leaves as many fewer.
func wantTake(t *testing.T, x *Tape, n int, want []byte) {
	t.Helper()
	left := x.Left()
	got, e := x.Take(n)
	if e != api.OK || !bytes.Equal(got, want) {
		t.Fatalf("Take(%d): %x, error %d, not %x", n, got, e, want)
	}
	if x.Left() != left-n {
		t.Fatalf("Take(%d): %d left of %d", n, x.Left(), left)
	}
}

// wantRefused fails unless Take(n) answers that error alone and takes nothing.
func wantRefused(t *testing.T, x *Tape, n int, want api.Errno) {
	t.Helper()
	left := x.Left()
	if got, e := x.Take(n); e != want || got != nil {
		t.Fatalf("Take(%d): %x, error %d, not error %d alone", n, got, e, want)
	}
	if x.Left() != left {
		t.Fatalf("Take(%d) was refused, but %d are left of %d", n, x.Left(), left)
	}
}

// wantNoKey fails unless Key answers ErrEntropy alone and takes nothing.
func wantNoKey(t *testing.T, x *Tape) {
	t.Helper()
	left := x.Left()
	if k, e := x.Key(); e != api.ErrEntropy || k != (api.Key{}) {
		t.Fatalf("Key with %d left: %x, error %d, not ErrEntropy alone", left, k, e)
	}
	if x.Left() != left {
		t.Fatalf("Key was refused, but %d are left of %d", x.Left(), left)
	}
}

// wantAhead fails unless just want is ahead; it takes all of it.
func wantAhead(t *testing.T, x *Tape, want []byte) {
	t.Helper()
	if x.Left() != len(want) {
		t.Fatalf("%d left, not %d", x.Left(), len(want))
	}
	wantTake(t, x, len(want), want)
	wantRefused(t, x, 1, api.ErrEntropy)
}

// P6.1: as many as were given, and those.
func TestNewHasTheBytesAhead(t *testing.T) {
	for _, n := range []int{0, 1, 2, 31, 32, 33, 1000, 1 << 16} {
		wantAhead(t, New(sample(n)), sample(n))
	}
}

// P6.1, P3: no bytes are an empty tape, which somebody made all the same.
func TestNewOfNoBytes(t *testing.T) {
	for _, b := range [][]byte{nil, {}, make([]byte, 0, 40)} {
		x := New(b)
		if x == nil || x.Left() != 0 {
			t.Fatal("no empty tape")
		}
		wantTake(t, x, 0, nil)
		wantRefused(t, x, 1, api.ErrEntropy)
		wantNoKey(t, x)
		c := x.Clone()
		if c == nil || c == x || c.Left() != 0 {
			t.Fatal("no Clone of an empty tape")
		}
	}
}

// P6.1: Left doesn't take.
func TestLeftTakesNothing(t *testing.T) {
	x := New(sample(5))
	for range 10 {
		if x.Left() != 5 {
			t.Fatal(x.Left())
		}
	}
	wantAhead(t, x, sample(5))
}

// P6.2: the document's example.
func TestTakeOfThreeBytes(t *testing.T) {
	x := New([]byte{7, 8, 9})
	wantTake(t, x, 2, []byte{7, 8})
	wantRefused(t, x, 2, api.ErrEntropy)
	if x.Left() != 1 {
		t.Fatal(x.Left())
	}
	wantAhead(t, x, []byte{9})
}

// P6.2: one behind the other, none left out and none twice, however they are cut.
func TestTakeGoesOn(t *testing.T) {
	all := sample(200)
	for step := 1; step <= 70; step++ {
		x := New(all)
		var got []byte
		for x.Left() > 0 {
			n := min(step, x.Left())
			wantTake(t, x, n, all[len(got):len(got)+n])
			got = append(got, all[len(got):len(got)+n]...)
		}
		wantRefused(t, x, step, api.ErrEntropy)
	}
}

// P6.2: every number around what is left.
func TestTakeAtTheEdges(t *testing.T) {
	for size := range 40 {
		for n := -3; n <= size+3; n++ {
			x := New(sample(size))
			switch {
			case n < 0:
				wantRefused(t, x, n, api.ErrRange)
				wantAhead(t, x, sample(size))
			case n > size:
				wantRefused(t, x, n, api.ErrEntropy)
				wantAhead(t, x, sample(size))
			default:
				wantTake(t, x, n, sample(size)[:n])
				wantAhead(t, x, sample(size)[n:])
			}
		}
	}
}

// P6.2, P1: numbers that nothing has, on full tapes, on empty ones and on those that nobody made.
func TestTakeOfWrongNumbers(t *testing.T) {
	spent := New(sample(8))
	wantTake(t, spent, 8, sample(8))
	for _, x := range []*Tape{New(sample(8)), spent, New(nil), {}, nil} {
		for _, n := range []int{-1, -8, math.MinInt32, math.MinInt, math.MinInt + 1} {
			wantRefused(t, x, n, api.ErrRange)
		}
		for _, n := range []int{9, 1 << 20, math.MaxInt32, math.MaxInt - 1, math.MaxInt} {
			wantRefused(t, x, n, api.ErrEntropy)
		}
		wantTake(t, x, 0, nil)
	}
}

// P6.2: a refusal isn't remembered.
func TestTakeGoesOnBehindARefusal(t *testing.T) {
	x := New(sample(10))
	wantTake(t, x, 4, sample(10)[:4])
	wantRefused(t, x, 7, api.ErrEntropy)
	wantRefused(t, x, -1, api.ErrRange)
	wantNoKey(t, x)
	wantTake(t, x, 6, sample(10)[4:])
}

// P6.2: the next 32, in their order; then the next.
func TestKeyIsTheNextBytes(t *testing.T) {
	all := sample(3 + 32 + 32 + 31)
	x := New(all)
	wantTake(t, x, 3, all[:3])
	for at := 3; at < 67; at += 32 {
		k, e := x.Key()
		if e != api.OK || !bytes.Equal(k[:], all[at:at+32]) {
			t.Fatalf("Key at %d: %x, error %d", at, k, e)
		}
		if x.Left() != len(all)-at-32 {
			t.Fatalf("Key at %d: %d left", at, x.Left())
		}
	}
	wantNoKey(t, x)
	wantAhead(t, x, all[67:])
}

// P6.2: just 32 are enough, one fewer isn't.
func TestKeyAtTheEdges(t *testing.T) {
	for n := range 40 {
		x := New(sample(n))
		if n < 32 {
			wantNoKey(t, x)
			wantAhead(t, x, sample(n))
			continue
		}
		k, e := x.Key()
		if e != api.OK || !bytes.Equal(k[:], sample(n)[:32]) {
			t.Fatalf("Key of %d bytes: %x, error %d", n, k, e)
		}
		wantAhead(t, x, sample(n)[32:])
	}
}

// P6.1: from any place on, a Clone has what its tape has ahead.
func TestCloneGoesOnAlike(t *testing.T) {
	all := sample(50)
	for at := 0; at <= len(all); at++ {
		x := New(all)
		wantTake(t, x, at, all[:at])
		c := x.Clone()
		if c == nil || c == x {
			t.Fatalf("no Clone at %d", at)
		}
		wantAhead(t, c.Clone(), all[at:])
		wantAhead(t, c, all[at:])
		wantAhead(t, x, all[at:])
	}
}

// P6.1: drawn from by itself, whichever of the two is drawn from first.
func TestCloneGoesByItself(t *testing.T) {
	all := sample(80)
	x := New(all)
	c := x.Clone()
	if _, e := x.Key(); e != api.OK || x.Left() != 48 || c.Left() != 80 {
		t.Fatal(e, x.Left(), c.Left())
	}
	wantTake(t, c, 10, all[:10])
	wantTake(t, x, 10, all[32:42])
	wantTake(t, c, 60, all[10:70])
	wantAhead(t, x, all[42:])
	wantAhead(t, c, all[70:])
	d := c.Clone()
	if d == nil {
		t.Fatal("no Clone of a tape of which nothing is left")
	}
	wantAhead(t, d, nil)
}

// P6.2: of a tape that nobody made nothing is left, and its Clone is nil.
func TestATapeThatNobodyMade(t *testing.T) {
	for what, x := range unmade() {
		t.Run(what, func(t *testing.T) {
			for range 2 { // the second time behind all calls
				if x.Left() != 0 {
					t.Fatal(x.Left())
				}
				if c := x.Clone(); c != nil {
					t.Fatal("it has a Clone")
				}
				wantTake(t, x, 0, nil)
				wantRefused(t, x, 1, api.ErrEntropy)
				wantRefused(t, x, 32, api.ErrEntropy)
				wantRefused(t, x, -1, api.ErrRange)
				wantNoKey(t, x)
			}
		})
	}
}

// P2: what is given isn't changed, nor kept; what lies behind its length isn't drawn.
func TestNewKeepsBytesOfItsOwn(t *testing.T) {
	all := sample(60)
	given := slices.Clone(all)
	x := New(given[:40])
	c := x.Clone()
	wantTake(t, x, 10, all[:10])
	wantRefused(t, x, 31, api.ErrEntropy)
	if !bytes.Equal(given, all) {
		t.Fatalf("what was given was changed: %x", given)
	}
	clear(given)
	wantAhead(t, x, all[10:40])
	wantAhead(t, c, all[:40])
}

// P2: what is answered is nobody else's: no tape's, no Clone's, no other answer's, with nothing behind its length.
func TestAnswersShareNothing(t *testing.T) {
	all := sample(60)
	given := slices.Clone(all)
	x := New(given)
	c := x.Clone()
	first, _ := x.Take(20)
	second, _ := x.Take(20)
	if cap(first) != len(first) || cap(second) != len(second) {
		t.Fatal("something is handed out behind a length")
	}
	clear(first)
	_ = append(first, 0xaa, 0xaa, 0xaa)
	if !bytes.Equal(second, all[20:40]) {
		t.Fatalf("the second answer was changed with the first: %x", second)
	}
	_ = append(second, 0xaa, 0xaa, 0xaa)
	clear(second)
	other, _ := c.Take(20)
	if !bytes.Equal(other, all[:20]) {
		t.Fatalf("the Clone was changed with an answer: %x", other)
	}
	clear(other)
	wantAhead(t, x, all[40:])
	wantAhead(t, c, all[20:])
	if !bytes.Equal(given, all) {
		t.Fatalf("what was given was changed: %x", given)
	}
}

// P2: also of a tape that was copied as a value.
func TestAnswersAreNewMemory(t *testing.T) {
	all := sample(40)
	x := New(all)
	y := *x
	first, _ := x.Take(40)
	clear(first)
	wantAhead(t, &y, all)
}
