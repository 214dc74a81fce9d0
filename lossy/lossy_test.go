package lossy

import (
	"math"
	"slices"
	"strings"
	"testing"

	"tabularium/api"
)

// letters are the texts that Sends get by their numbers: a, b, c ..
const letters = "abcdefghijklmnopqrstuvwxyz"

// send sends the texts one by one.
func send(l *Link, texts ...string) {
	for _, s := range texts {
		l.Send([]byte(s))
	}
}

// drained is what Drain tells, the texts with blanks between.
func drained(l *Link) string {
	var out []string
	for b := range l.Drain() {
		out = append(out, string(b))
	}
	return strings.Join(out, " ")
}

// wantEmpty fails unless nothing waits, by each of the calls.
func wantEmpty(t *testing.T, l *Link) {
	t.Helper()
	if n := l.Waiting(); n != 0 {
		t.Fatalf("%d wait, not none", n)
	}
	for range 2 {
		if b, is := l.Receive(); is || len(b) != 0 {
			t.Fatalf("received %q, %t of nothing", b, is)
		}
	}
	for b := range l.Drain() {
		t.Fatalf("%q is told of nothing", b)
	}
}

// wantNext fails unless s is received next, and one fewer waits behind it.
func wantNext(t *testing.T, l *Link, s string) {
	t.Helper()
	n := l.Waiting()
	if b, is := l.Receive(); !is || string(b) != s {
		t.Fatalf("received %q, %t, not %q", b, is, s)
	}
	if l.Waiting() != n-1 {
		t.Fatalf("%d wait behind one of %d was received", l.Waiting(), n)
	}
}

// wantAll fails unless these are received one by one, and nothing else.
func wantAll(t *testing.T, l *Link, texts ...string) {
	t.Helper()
	if l.Waiting() != len(texts) {
		t.Fatalf("%d wait, not %d", l.Waiting(), len(texts))
	}
	for _, s := range texts {
		wantNext(t, l, s)
	}
	wantEmpty(t, l)
}

// P19.2: the document's example.
func TestExample(t *testing.T) {
	l := New(api.Fate{Times: 1, Delay: 2}, api.Fate{Times: 2, Delay: 0})
	send(l, "a", "b", "c")
	wantAll(t, l, "b", "b", "a", "c")
}

// P19.1: on a new line nothing waits, whatever fates it has.
func TestNewIsEmpty(t *testing.T) {
	for _, fates := range [][]api.Fate{nil, {}, {{}}, {{Times: 1}}, {{Times: 3, Delay: 1000}, {Times: -1}}} {
		l := New(fates...)
		if l == nil {
			t.Fatal("no line")
		}
		wantEmpty(t, l)
		send(l, "a")
		wantEmpty(t, New(fates...))
	}
}

// P19.1: the k-th Send has the k-th fate, also behind Sends that were lost and behind such as were received.
func TestFatesByTheirPlaces(t *testing.T) {
	fates := []api.Fate{{Times: 2}, {Times: 0}, {Times: 3}, {Times: -4}, {Times: 0}, {Times: 1}, {Times: 2}}
	for _, receives := range []bool{false, true} {
		l := New(fates...)
		waiting := 0
		for k, times := range []int{2, 0, 3, 0, 0, 1, 2, 1, 1, 1, 1} {
			send(l, letters[k:k+1])
			waiting += times
			if l.Waiting() != waiting {
				t.Fatalf("%d wait behind the Send %d, not %d", l.Waiting(), k, waiting)
			}
			if receives {
				for range times {
					wantNext(t, l, letters[k:k+1])
				}
				wantEmpty(t, l)
				waiting = 0
			}
		}
	}
}

// P19.1: a Receive and a Drain use no fate up.
func TestReceiveUsesNoFateUp(t *testing.T) {
	l := New(api.Fate{Times: 2}, api.Fate{Times: 3})
	wantEmpty(t, l)
	send(l, "a")
	wantAll(t, l, "a", "a")
	send(l, "b")
	wantAll(t, l, "b", "b", "b")
	send(l, "c")
	wantAll(t, l, "c")
}

// P19.1: what has no fate isn't held back: it overtakes what has one, and is overtaken by nothing.
func TestBehindTheFates(t *testing.T) {
	l := New(api.Fate{Times: 1, Delay: 4}, api.Fate{Times: 1, Delay: 1})
	send(l, "a", "b", "c", "d", "e", "f")
	wantAll(t, l, "b", "c", "d", "a", "e", "f")
}

// P19.2: how many copies wait, by Times, at its edges and far from them.
func TestTimes(t *testing.T) {
	for times, want := range map[int]int{
		math.MinInt: 0, math.MinInt32: 0, -1000: 0, -2: 0, -1: 0, 0: 0, 1: 1, 2: 2, 3: 3,
		4: 3, 5: 3, 6: 3, 256: 3, 1000: 3, 1001: 3, 1 << 32: 3, math.MaxInt32: 3, math.MaxInt: 3,
	} {
		l := New(api.Fate{Times: times})
		send(l, "a")
		if l.Waiting() != want {
			t.Fatalf("Times %d: %d wait, not %d", times, l.Waiting(), want)
		}
		send(l, "b")
		wantAll(t, l, append(slices.Repeat([]string{"a"}, want), "b")...)
	}
}

// P19.2: by how many it is overtaken, by Delay, at its edges and far from them.
func TestDelay(t *testing.T) {
	for delay, due := range map[int]int{
		math.MinInt: 0, math.MinInt + 1: 0, math.MinInt32: 0, -1001: 0, -1000: 0, -3: 0, -1: 0, 0: 0, 1: 1, 2: 2, 3: 3,
		500: 500, 998: 998, 999: 999, 1000: 1000, 1001: 1000, 1002: 1000, 2000: 1000, 65536: 1000,
		1 << 32: 1000, 1<<32 + 1: 1000, math.MaxInt32: 1000, math.MaxInt - 1: 1000, math.MaxInt: 1000,
	} {
		for _, ahead := range []int{0, 1, 2, 5} {
			wantDue(t, delay, due, ahead)
		}
	}
}

// wantDue fails unless what is sent with this Delay behind so many others comes where it must, if it is due so much later.
func wantDue(t *testing.T, delay, due, ahead int) {
	t.Helper()
	fates := append(slices.Repeat([]api.Fate{{Times: 1}}, ahead), api.Fate{Times: 1, Delay: delay})
	l := New(fates...)
	for range ahead {
		send(l, "ahead")
	}
	send(l, "it")
	for range 1100 {
		send(l, "behind")
	}
	// What is sent last of all that comes ahead of it is due just ahead of it.
	place := ahead + max(due-1, 0)
	for i := range ahead + 1101 {
		b, _ := l.Receive()
		if (string(b) == "it") != (i == place) || (string(b) == "ahead") != (i < ahead) {
			t.Fatalf("Delay %d behind %d: %q is received at %d", delay, ahead, b, i)
		}
	}
	wantEmpty(t, l)
}

// P19.2: of what is due together comes first what was sent first, all its copies one behind the other.
func TestDueTogether(t *testing.T) {
	l := New(api.Fate{Times: 2, Delay: 3}, api.Fate{Times: 1, Delay: 2}, api.Fate{Times: 3, Delay: 1}, api.Fate{Times: 2, Delay: 0}, api.Fate{Times: 1, Delay: -1})
	send(l, "a", "b", "c", "d", "e")
	wantAll(t, l, "a", "a", "b", "c", "c", "c", "d", "d", "e")
	// The same, though the one that was sent last is due first.
	l = New(api.Fate{Times: 1, Delay: 5}, api.Fate{Times: 1, Delay: 4}, api.Fate{Times: 1, Delay: 3}, api.Fate{Times: 2, Delay: 0})
	send(l, "a", "b", "c", "d")
	wantAll(t, l, "d", "d", "a", "b", "c")
}

// P19.2: what isn't due yet by what was sent comes, too, if nothing else waits; what is sent later doesn't come ahead of what is due first.
func TestReceiveDoesNotWait(t *testing.T) {
	l := New(api.Fate{Times: 2, Delay: 1000}, api.Fate{Times: 1, Delay: 7})
	send(l, "a")
	wantNext(t, l, "a")
	send(l, "b")
	wantAll(t, l, "b", "a")
	send(l, "c")
	wantAll(t, l, "c")
}

// P19.2, P3: messages of no bytes are messages, and nil and empty are the same.
func TestEmptyMessages(t *testing.T) {
	l := New(api.Fate{Times: 2}, api.Fate{Times: 1, Delay: 2})
	for _, b := range [][]byte{nil, {}, nil} {
		l.Send(b)
	}
	send(l, "a")
	if n := l.Waiting(); n != 5 {
		t.Fatalf("%d wait, not 5", n)
	}
	wantAll(t, l, "", "", "", "", "a")
	l.Send(nil)
	n := 0
	for b := range l.Drain() {
		if n++; len(b) != 0 {
			t.Fatalf("%q is told", b)
		}
	}
	if n != 1 {
		t.Fatalf("%d are told, not 1", n)
	}
}

// P19.2: a long message comes as it was sent.
func TestLongMessages(t *testing.T) {
	long := make([]byte, 1<<20)
	for i := range long {
		long[i] = byte(i*i>>7 + i)
	}
	l := New(api.Fate{Times: 3, Delay: 1})
	l.Send(long)
	l.Send(long[:len(long)-1])
	wantAll(t, l, string(long), string(long), string(long), string(long[:len(long)-1]))
}

// P19.1, P19.2, P1: a Link that nobody made keeps nothing.
func TestNobodyMade(t *testing.T) {
	for what, l := range map[string]*Link{"nil": nil, "zero value": {}} {
		t.Run(what, func(t *testing.T) {
			wantEmpty(t, l)
			drain := l.Drain()
			send(l, "a", "b")
			l.Send(nil)
			wantEmpty(t, l)
			for b := range drain {
				t.Fatalf("%q is told", b)
			}
		})
	}
}
