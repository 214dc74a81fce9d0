package lossy

import (
	"slices"
	"strings"
	"testing"

	"tabularium/api"
)

// P19.2: Drain tells what Receive answers, and behind it nothing waits.
func TestDrain(t *testing.T) {
	l := New(api.Fate{Times: 1, Delay: 2}, api.Fate{Times: 2})
	send(l, "a", "b", "c")
	if s := drained(l); s != "b b a c" {
		t.Fatal(s)
	}
	wantEmpty(t, l)
	send(l, "d", "e")
	if s := drained(l); s != "d e" {
		t.Fatal(s)
	}
	wantEmpty(t, l)
}

// P19.2: what is told waits no more while it is told, and all else still does.
func TestDrainTakesOneByOne(t *testing.T) {
	l := New(api.Fate{Times: 3, Delay: 1})
	send(l, "a", "b", "c")
	left := 5
	for range l.Drain() {
		if left--; l.Waiting() != left {
			t.Fatalf("%d wait, not %d", l.Waiting(), left)
		}
	}
	if left != 0 {
		t.Fatalf("%d weren't told", left)
	}
}

// P19.2, P5: behind a loop that is left just what it told is gone, wherever it is left; and it may be gone through again.
func TestDrainLeft(t *testing.T) {
	all := []string{"b", "b", "a", "c", "d", "d", "d"}
	for n := 1; n <= len(all); n++ {
		l := New(api.Fate{Times: 1, Delay: 2}, api.Fate{Times: 2}, api.Fate{Times: 1}, api.Fate{Times: 9})
		send(l, "a", "b", "c", "d")
		drain := l.Drain()
		var got []string
		for b := range drain {
			if got = append(got, string(b)); len(got) == n {
				break
			}
		}
		if !slices.Equal(got, all[:n]) || l.Waiting() != len(all)-n {
			t.Fatalf("%v are told, %d wait", got, l.Waiting())
		}
		for b := range drain {
			got = append(got, string(b))
		}
		if !slices.Equal(got, all) {
			t.Fatalf("left behind %d: %v", n, got)
		}
		wantEmpty(t, l)
		// And again, when there is something to tell again.
		send(l, "e", "f")
		var more []string
		for b := range drain {
			more = append(more, string(b))
		}
		if !slices.Equal(more, []string{"e", "f"}) {
			t.Fatalf("behind all: %v", more)
		}
	}
}

// P19.2: a Drain tells what waits when it is gone through, not when it was called.
func TestDrainOfLater(t *testing.T) {
	l := New()
	send(l, "a")
	drain := l.Drain()
	send(l, "b")
	wantNext(t, l, "a")
	send(l, "c")
	var got []string
	for b := range drain {
		got = append(got, string(b))
	}
	if !slices.Equal(got, []string{"b", "c"}) {
		t.Fatal(got)
	}
}

// P19.2: what is sent meanwhile is told, too, each where it is due.
func TestDrainMeanwhile(t *testing.T) {
	l := New(api.Fate{Times: 1}, api.Fate{Times: 2, Delay: 5}, api.Fate{Times: 1, Delay: 4}, api.Fate{Times: 0}, api.Fate{Times: 1, Delay: 1}, api.Fate{Times: 3})
	send(l, "a", "b", "c")
	var got []string
	for b := range l.Drain() {
		got = append(got, string(b))
		switch len(got) {
		case 1: // ahead of which nothing but a was told: d is lost, e and f are due ahead of b
			send(l, "d", "e", "f")
		case 8: // the last one of all is being told
			if l.Waiting() != 0 {
				t.Fatalf("%d wait", l.Waiting())
			}
			send(l, "g")
		}
	}
	// b and c are due at 6, e at 5, f at 5.
	if s := strings.Join(got, " "); s != "a e f f f b b c g" {
		t.Fatal(s)
	}
	wantEmpty(t, l)
}

// P19.2: a loop that answers each message goes on as long as it sends something.
func TestDrainAnswered(t *testing.T) {
	l := New()
	send(l, strings.Repeat("x", 100))
	n := 0
	for b := range l.Drain() {
		if n++; len(b) > 0 {
			l.Send(b[1:])
		}
	}
	if n != 101 {
		t.Fatalf("%d are told, not 101", n)
	}
}

// P19.2: what is received within the loop isn't told, by Receive, by a Drain in the Drain, or by the same one.
func TestDrainWithin(t *testing.T) {
	l := New()
	send(l, "a", "b", "c", "d", "e", "f")
	var got []string
	drain := l.Drain()
	for b := range drain {
		got = append(got, string(b))
		switch string(b) {
		case "a":
			wantNext(t, l, "b")
		case "c":
			for b := range drain {
				got = append(got, "("+string(b)+")")
				break
			}
		case "e":
			got = append(got, "["+drained(l)+"]")
		}
	}
	if s := strings.Join(got, " "); s != "a c (d) e [f]" {
		t.Fatal(s)
	}
	wantEmpty(t, l)
}
