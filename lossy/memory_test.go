package lossy

import (
	"bytes"
	"slices"
	"testing"

	"tabularium/api"
)

// P2: what was sent is what is received, whatever becomes of the argument behind the Send; and the Send leaves it as it is.
func TestSendKeepsBytesOfItsOwn(t *testing.T) {
	for _, fate := range []api.Fate{{Times: 1}, {Times: 3}, {Times: 2, Delay: 4}} {
		l := New(fate)
		all := []byte("message, and what lies behind it")
		b := all[:7]
		l.Send(b)
		if string(all) != "message, and what lies behind it" {
			t.Fatalf("%q was changed", all)
		}
		clear(all)
		wantAll(t, l, slices.Repeat([]string{"message"}, fate.Times)...)
	}
}

// spoil writes c over b, and over what lies behind its length.
func spoil(b []byte, c byte) {
	b = b[:cap(b)]
	for i := range b {
		b[i] = c
	}
}

// P2: what is received is the receiver's: written to, it changes no other copy, no other message and nothing that was given.
func TestReceivedIsNewMemory(t *testing.T) {
	l := New(api.Fate{Times: 3}, api.Fate{Times: 2})
	given := [][]byte{[]byte("first"), []byte("other"), []byte("third")}
	for _, b := range given {
		l.Send(b)
	}
	var got [][]byte
	for b := range l.Drain() {
		spoil(b, byte(len(got)))
		got = append(got, b)
	}
	if len(got) != 6 {
		t.Fatalf("%d are received, not 6", len(got))
	}
	for i, b := range got {
		if !bytes.Equal(b, bytes.Repeat([]byte{byte(i)}, 5)) {
			t.Fatalf("%d: %x", i, b)
		}
	}
	if string(given[0]) != "first" || string(given[1]) != "other" || string(given[2]) != "third" {
		t.Fatalf("%q", given)
	}
}

// P2: each copy is as it was sent, if those ahead of it are written over as they come.
func TestCopiesAreApart(t *testing.T) {
	l := New(api.Fate{Times: 3, Delay: 1}, api.Fate{Times: 3})
	send(l, "first", "other")
	for _, want := range []string{"first", "first", "first", "other", "other", "other"} {
		b, is := l.Receive()
		if !is || string(b) != want {
			t.Fatalf("%q, %t, not %q", b, is, want)
		}
		spoil(b, 0xee)
	}
}

// P2: a line doesn't see what becomes of what it gave, if that is sent again.
func TestSentAgain(t *testing.T) {
	l := New(api.Fate{Times: 2})
	send(l, "first")
	b, _ := l.Receive()
	l.Send(b)
	spoil(b, 0xee)
	wantAll(t, l, "first", "first")
}

// P2: the fates that are given aren't changed, nor kept; what lies behind their length is no fate.
func TestNewKeepsFatesOfItsOwn(t *testing.T) {
	all := []api.Fate{{Times: 2}, {Times: 0, Delay: 3}, {Times: 3}, {Times: -1}}
	given := slices.Clone(all)
	l := New(given[:2]...)
	clear(given)
	send(l, "a", "b", "c", "d")
	wantAll(t, l, "a", "a", "c", "d")
	copy(given, all)
	l = New(given...)
	send(l, "a", "b", "c", "d", "e")
	wantAll(t, l, "a", "a", "c", "c", "c", "e")
	if !slices.Equal(given, all) {
		t.Fatalf("what was given became %v", given)
	}
}

// P3: two lines of the same fates go on by themselves, and alike.
func TestLinesAreApart(t *testing.T) {
	fates := []api.Fate{{Times: 1, Delay: 2}, {Times: 2}}
	one, two := New(fates...), New(fates...)
	send(one, "a", "b", "c")
	wantEmpty(t, two)
	send(two, "a", "b", "c")
	wantAll(t, one, "b", "b", "a", "c")
	wantAll(t, two, "b", "b", "a", "c")
}

// What was received isn't kept: neither the bytes, nor a place for them.
func TestNothingIsKeptOfWhatWasReceived(t *testing.T) {
	l := New()
	send(l, "a", "b", "c")
	whole := l.waiting
	wantNext(t, l, "a")
	wantNext(t, l, "b")
	if whole[0].text != nil || whole[1].text != nil || string(whole[2].text) != "c" {
		t.Fatalf("kept: %v", whole)
	}
	for range 10000 {
		send(l, "d")
		l.Receive()
	}
	if n := cap(l.waiting); n > 100 {
		t.Fatalf("room for %d, though one waits", n)
	}
}
