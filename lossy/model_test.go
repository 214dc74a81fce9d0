package lossy

import (
	"math"
	"slices"
	"strconv"
	"testing"

	"tabularium/api"
)

// model is a line as the document's sentences tell it: a heap of copies in no order, of which the one is looked for that comes.
type model struct {
	fates []api.Fate
	sends int
	heap  []waits
}

// waits is a copy: when it is due, and the number of its Send.
type waits struct {
	due, sent int
	text      string
}

func (m *model) send(s string) {
	f := api.Fate{Times: 1, Delay: 0}
	for k, given := range m.fates {
		if k == m.sends {
			f = given
		}
	}
	if f.Times > 3 {
		f.Times = 3
	}
	if f.Delay < 0 {
		f.Delay = 0
	}
	if f.Delay > 1000 {
		f.Delay = 1000
	}
	for i := 0; i < f.Times; i++ {
		m.heap = append([]waits{{m.sends + f.Delay, m.sends, s}}, m.heap...)
	}
	m.sends++
}

func (m *model) receive() (string, bool) {
	best := -1
	for i, w := range m.heap {
		if best < 0 || w.due < m.heap[best].due || w.due == m.heap[best].due && w.sent < m.heap[best].sent {
			best = i
		}
	}
	if best < 0 {
		return "", false
	}
	s := m.heap[best].text
	m.heap = slices.Delete(m.heap, best, best+1)
	return s, true
}

// both is a line and its model, to which the same is done.
type both struct {
	l *Link
	m *model
}

func bothOf(fates []api.Fate) both {
	return both{New(fates...), &model{fates: fates}}
}

// send sends a text that no other Send has.
func (b both) send() {
	s := strconv.Itoa(b.m.sends)
	b.l.Send([]byte(s))
	b.m.send(s)
}

// receive receives once, and fails unless both answer the same.
func (b both) receive(t *testing.T) bool {
	t.Helper()
	got, is := b.l.Receive()
	want, was := b.m.receive()
	if string(got) != want || is != was {
		t.Fatalf("fates %v, %d sent: received %q, %t, not %q, %t", b.m.fates, b.m.sends, got, is, want, was)
	}
	b.wantWaiting(t)
	return is
}

// drain goes through a Drain, as far as most, and fails unless it tells what the model has; it sends as it goes on, if more says so.
func (b both) drain(t *testing.T, most int, more func() bool) {
	t.Helper()
	for got := range b.l.Drain() {
		if want, was := b.m.receive(); string(got) != want || !was {
			t.Fatalf("fates %v, %d sent: told %q, not %q, %t", b.m.fates, b.m.sends, got, want, was)
		}
		b.wantWaiting(t)
		if more() {
			b.send()
		}
		if most--; most <= 0 {
			return
		}
	}
	if len(b.m.heap) != 0 {
		t.Fatalf("fates %v: a Drain ended, and %d wait", b.m.fates, len(b.m.heap))
	}
}

func (b both) wantWaiting(t *testing.T) {
	t.Helper()
	if b.l.Waiting() != len(b.m.heap) {
		t.Fatalf("fates %v, %d sent: %d wait, not %d", b.m.fates, b.m.sends, b.l.Waiting(), len(b.m.heap))
	}
}

// P19.1, P19.2: all lists of up to three fates near the edges, with a Receive at any places between the Sends.
func TestEveryFewFates(t *testing.T) {
	var some []api.Fate
	for times := -1; times <= 4; times++ {
		for delay := -1; delay <= 3; delay++ {
			some = append(some, api.Fate{Times: times, Delay: delay})
		}
	}
	lists := [][]api.Fate{nil}
	for from := 0; from < len(lists); from++ {
		if l := lists[from]; len(l) < 3 {
			for _, f := range some {
				lists = append(lists, append(slices.Clone(l), f))
			}
		}
	}
	for _, fates := range lists {
		for places := range 16 {
			b := bothOf(fates)
			for i := range 5 {
				b.send()
				b.wantWaiting(t)
				if places>>i&1 != 0 {
					b.receive(t)
				}
			}
			for b.receive(t) {
			}
			wantEmpty(t, b.l)
		}
	}
}

// drawn is numbers that come the same each time.
func drawn(seed int) func(int) int {
	x := uint32(seed)*2654435761 + 12345
	return func(n int) int {
		x = x*1664525 + 1013904223
		return int(x>>8) % n
	}
}

// drawnFate is any fate, often near an edge.
func drawnFate(next func(int) int) api.Fate {
	times := []int{math.MinInt, -1, 0, 1, 1, 2, 3, 4, math.MaxInt}
	delays := []int{math.MinInt, -1, 0, 0, 1, 2, 3, 5, 17, 998, 999, 1000, 1001, 1002, math.MaxInt}
	return api.Fate{Times: times[next(len(times))], Delay: delays[next(len(delays))]}
}

// P19.1, P19.2: any calls, in any order, are answered as the document's sentences tell.
func TestByTheModel(t *testing.T) {
	for seed := range 400 {
		next := drawn(seed)
		var fates []api.Fate
		for range next(60) {
			fates = append(fates, drawnFate(next))
		}
		b := bothOf(fates)
		for range 150 {
			switch next(10) {
			case 0, 1, 2, 3, 4:
				b.send()
				b.wantWaiting(t)
			case 5:
				most := next(12) + 1
				b.drain(t, most, func() bool { return next(3) == 0 })
			default:
				b.receive(t)
			}
		}
		b.drain(t, math.MaxInt, func() bool { return false })
		wantEmpty(t, b.l)
	}
}

// P19.2: what is held back longest, with as many Sends as overtake it, and some more.
func TestHeldBackByMany(t *testing.T) {
	for seed := range 3 {
		next := drawn(seed)
		var fates []api.Fate
		for range 1500 {
			fates = append(fates, drawnFate(next))
		}
		b := bothOf(fates)
		for range 2600 {
			b.send()
		}
		for b.receive(t) {
		}
	}
}

// P19.3: whatever the fates are, what is received was sent, each as often as its fate says, and not ahead of being sent.
func TestNothingElse(t *testing.T) {
	for seed := range 100 {
		next := drawn(seed)
		fates := make([]api.Fate, next(50))
		for i := range fates {
			fates[i] = drawnFate(next)
		}
		l := New(fates...)
		var times []int // by the Sends' numbers
		count := func(b []byte) {
			k, e := strconv.Atoi(string(b))
			if e != nil || k < 0 || k >= len(times) {
				t.Fatalf("%q is received of %d", b, len(times))
			}
			times[k]++
		}
		for k := range 80 {
			send(l, strconv.Itoa(k))
			times = append(times, 0)
			for range next(4) {
				if b, is := l.Receive(); is {
					count(b)
				}
			}
		}
		for b := range l.Drain() {
			count(b)
		}
		for k, n := range times {
			want := 1
			if k < len(fates) {
				want = min(max(fates[k].Times, 0), 3)
			}
			if n != want {
				t.Fatalf("fates %v: %d is received %d times, not %d", fates, k, n, want)
			}
		}
	}
}

// P19.3: without fates all comes in order, once, however Sends and Receives take turns, and however many wait.
func TestWithoutFates(t *testing.T) {
	for seed := range 20 {
		next := drawn(seed)
		l := New()
		sent, received := 0, 0
		for sent < 1<<12 {
			for range next(20) {
				send(l, strconv.Itoa(sent))
				sent++
			}
			for range next(20) {
				if received == sent {
					wantEmpty(t, l)
					continue
				}
				wantNext(t, l, strconv.Itoa(received))
				received++
			}
		}
		wantDrained(t, l, received, sent)
	}
	l := New()
	for k := range 1 << 17 {
		send(l, strconv.Itoa(k))
	}
	wantDrained(t, l, 0, 1<<17)
}

// wantDrained fails unless a Drain tells just the numbers from from on, below to.
func wantDrained(t *testing.T, l *Link, from, to int) {
	t.Helper()
	if l.Waiting() != to-from {
		t.Fatalf("%d wait, not %d", l.Waiting(), to-from)
	}
	k := from
	for b := range l.Drain() {
		if string(b) != strconv.Itoa(k) {
			t.Fatalf("%q is told, not %d", b, k)
		}
		k++
	}
	if k != to {
		t.Fatalf("%d are told, not %d", k-from, to-from)
	}
}
