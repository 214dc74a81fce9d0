package codec

import (
	"bytes"
	"math"
	"slices"
	"testing"

	"tabularium/api"
)

// wantFailed fails unless r has failed, and tells nothing whatever it is asked.
func wantFailed(t *testing.T, r *Reader, why string) {
	t.Helper()
	for range 2 {
		if n := r.Rest(); n != 0 {
			t.Fatalf("%s: %d bytes left", why, n)
		}
		if e := r.End(); e != api.ErrCodec {
			t.Fatalf("%s: End is %d", why, e)
		}
		if x := r.N(1<<64 - 1); x != 0 {
			t.Fatalf("%s: a number is told: %d", why, x)
		}
		for _, n := range []int{0, 1, -1, math.MaxInt, math.MinInt} {
			if b := r.Raw(n); len(b) != 0 {
				t.Fatalf("%s: bytes are told: %x", why, b)
			}
			if b := r.Text(n); len(b) != 0 {
				t.Fatalf("%s: a text is told: %x", why, b)
			}
			if l := r.Ids(n); len(l) != 0 {
				t.Fatalf("%s: ids are told: %x", why, l)
			}
		}
	}
}

// wantBadNumber fails unless the number that b begins with fails, though it may be as great as can be.
func wantBadNumber(t *testing.T, b []byte, why string) {
	t.Helper()
	r := Read(b)
	if x := r.N(1<<64 - 1); x != 0 {
		t.Fatalf("%s: %x is read as %d", why, b, x)
	}
	wantFailed(t, r, why)
	if text := Read(b).Text(math.MaxInt); len(text) != 0 {
		t.Fatalf("%s: a text is told behind %x", why, b)
	}
	if ids := Read(b).Ids(math.MaxInt); len(ids) != 0 {
		t.Fatalf("%s: ids are told behind %x", why, b)
	}
}

// P8.2: the number that stands next; the greatest one too.
func TestNIsTheNumberThatStandsNext(t *testing.T) {
	r := Read([]byte{0xac, 2, 0, 0x7f, 0x80, 1, 0xff, 0xff, 0xff, 0xff, 0xff, 0xff, 0xff, 0xff, 0xff, 1, 9})
	for i, want := range []uint64{300, 0, 127, 128, 1<<64 - 1, 9} {
		if got := r.N(1<<64 - 1); got != want {
			t.Fatalf("number %d: %d, not %d", i, got, want)
		}
	}
	if r.Rest() != 0 || r.End() != api.OK {
		t.Fatalf("%d bytes left, error %d", r.Rest(), r.End())
	}
}

// P8.2: what isn't there: no byte, or none that is the last one.
func TestNOfWhatIsNotThere(t *testing.T) {
	wantBadNumber(t, nil, "nothing")
	wantBadNumber(t, []byte{}, "nothing")
	for n := 1; n <= 12; n++ {
		for _, fill := range []byte{0x80, 0x81, 0xff} {
			wantBadNumber(t, bytes.Repeat([]byte{fill}, n), "no last byte")
		}
	}
}

// P8.2: not in as few bytes as can be; also where the bytes behind are good.
func TestNInTooManyBytes(t *testing.T) {
	wantBadNumber(t, []byte{0x80, 0}, "the document's example")
	for n := 1; n <= 11; n++ {
		for _, fill := range []byte{0x80, 0x81, 0xff} {
			b := append(bytes.Repeat([]byte{fill}, n), 0)
			wantBadNumber(t, b, "too many bytes")
			wantBadNumber(t, append(b, 1, 2, 3), "too many bytes, and more behind")
		}
	}
	r := Read([]byte{0, 0, 0x80, 0x80, 1, 5})
	if a, b, c := r.N(0), r.N(0), r.N(16384); a != 0 || b != 0 || c != 16384 || r.Rest() != 1 {
		t.Fatalf("noughts that are needed: %d, %d, %d, %d left", a, b, c, r.Rest())
	}
}

// P8.2: above 2^64 - 1.
func TestNAboveAllNumbers(t *testing.T) {
	for _, fill := range []byte{0x80, 0x81, 0xff} {
		nine := bytes.Repeat([]byte{fill}, 9)
		for last := 2; last < 256; last++ {
			wantBadNumber(t, append(slices.Clone(nine), byte(last), 1), "above 2^64 - 1")
		}
		wantBadNumber(t, append(slices.Clone(nine), 0x81, 1), "eleven bytes")
		wantBadNumber(t, append(slices.Clone(nine), 0x80, 1), "eleven bytes, bit 63 unset")
	}
}

// P8.2: greater than it may be, by one at the edge.
func TestNGreaterThanItMayBe(t *testing.T) {
	for _, x := range numbers() {
		b := written(func(w *Writer) { w.N(x, 1) })
		for _, most := range []uint64{x, max(x, x+1), 1<<64 - 1} {
			r := Read(b)
			if got := r.N(most); got != x || r.Rest() != 1 || r.N(1) != 1 || r.End() != api.OK {
				t.Fatalf("N(%d) of %d: %d, error %d", most, x, got, r.End())
			}
		}
		if x == 0 {
			continue
		}
		for _, most := range []uint64{x - 1, x / 2, 0} {
			r := Read(b)
			if got := r.N(most); got != 0 && most < x {
				t.Fatalf("N(%d) of %d: %d", most, x, got)
			}
			wantFailed(t, r, "greater than it may be")
		}
	}
}

// P8.2: the next n bytes, one behind the other; none of them fails never.
func TestRawIsTheNextBytes(t *testing.T) {
	all := sample(300)
	r := Read(all)
	at := 0
	for _, n := range []int{0, 1, 2, 0, 128, 169, 0} {
		if got := r.Raw(n); !bytes.Equal(got, all[at:at+n]) {
			t.Fatalf("Raw(%d) at %d: %x", n, at, got)
		}
		at += n
		if r.Rest() != 300-at {
			t.Fatalf("%d bytes left, not %d", r.Rest(), 300-at)
		}
	}
	if r.End() != api.OK {
		t.Fatal(r.End())
	}
}

// P8.2: more bytes than there are, and fewer than none.
func TestRawOfWhatIsNotThere(t *testing.T) {
	for _, n := range []int{4, 5, 1000, math.MaxInt32, math.MaxInt, -1, -3, math.MinInt32, math.MinInt} {
		r := Read([]byte("abc"))
		if got := r.Raw(n); len(got) != 0 {
			t.Fatalf("Raw(%d): %x", n, got)
		}
		wantFailed(t, r, "bytes that aren't there")
	}
}

// P8.2: a text, just as long as it may be or shorter.
func TestTextIsTheTextThatStandsNext(t *testing.T) {
	for _, n := range []int{0, 1, 2, 127, 128, 16384, 70000} {
		want := sample(n)
		b := written(func(w *Writer) { w.Text(want); w.N(9) })
		for _, most := range []int{n, n + 1, 1 << 31, math.MaxInt} {
			r := Read(b)
			if got := r.Text(most); !bytes.Equal(got, want) || r.Rest() != 1 || r.N(9) != 9 || r.End() != api.OK {
				t.Fatalf("Text(%d) of %d bytes: %d bytes, error %d", most, n, len(got), r.End())
			}
		}
		for _, most := range []int{n - 1, -1, math.MinInt} {
			r := Read(b)
			if got := r.Text(most); len(got) != 0 {
				t.Fatalf("Text(%d) of %d bytes: %x", most, n, got)
			}
			wantFailed(t, r, "longer than it may be")
		}
	}
}

// P8.2: a text of which not all is there, up to the greatest length that can be told.
func TestTextOfWhatIsNotThere(t *testing.T) {
	cases := [][]byte{nil, {1}, {2, 'a'}, {0x80, 1}, {3, 'a', 'b'}}
	for _, n := range []uint64{1 << 20, 1<<31 - 1, 1 << 32, 1<<63 - 1, 1 << 63, 1<<64 - 1} {
		cases = append(cases, written(func(w *Writer) { w.N(n); w.Raw([]byte("abc")) }))
	}
	for _, b := range cases {
		r := Read(b)
		if got := r.Text(math.MaxInt); len(got) != 0 {
			t.Fatalf("a text out of %x: %x", b, got)
		}
		wantFailed(t, r, "a text that isn't there")
	}
}

// P8.2: ids, just as many as there may be or fewer.
func TestIdsAreThoseThatStandNext(t *testing.T) {
	for _, n := range []int{0, 1, 2, 127, 128, 1000} {
		want := sampleIds(n)
		b := written(func(w *Writer) { w.Ids(want); w.N(9) })
		for _, most := range []int{n, n + 1, math.MaxInt} {
			r := Read(b)
			if got := r.Ids(most); !slices.Equal(got, want) || r.Rest() != 1 || r.N(9) != 9 || r.End() != api.OK {
				t.Fatalf("Ids(%d) of %d: %d, error %d", most, n, len(got), r.End())
			}
		}
		for _, most := range []int{n - 1, -1, math.MinInt} {
			r := Read(b)
			if got := r.Ids(most); len(got) != 0 {
				t.Fatalf("Ids(%d) of %d: %d", most, n, len(got))
			}
			wantFailed(t, r, "more than there may be")
		}
	}
}

// P8.2: ids of which not all are there: counts whose bytes go round too.
func TestIdsOfWhatIsNotThere(t *testing.T) {
	cases := [][]byte{nil, {1}, append([]byte{1}, sample(31)...), append([]byte{2}, sample(63)...), append([]byte{3}, sample(64)...)}
	for _, n := range []uint64{3, 1 << 20, 1 << 27, 1 << 32, 1 << 58, 1 << 59, 1<<59 + 1, 1 << 60, 1<<63 - 1, 1 << 63, 1<<64 - 1} {
		cases = append(cases, written(func(w *Writer) { w.N(n); w.Raw(sample(64)) }))
	}
	for _, b := range cases {
		r := Read(b)
		if got := r.Ids(math.MaxInt); len(got) != 0 {
			t.Fatalf("%d ids out of %d bytes", len(got), len(b))
		}
		wantFailed(t, r, "ids that aren't there")
	}
}

// P8.2: how many bytes are left, behind each kind of reading.
func TestRestCountsWhatIsLeft(t *testing.T) {
	b := written(func(w *Writer) {
		w.N(300)
		w.Text([]byte("abc"))
		w.Ids(sampleIds(1))
		w.Raw([]byte("xy"))
	})
	r := Read(b)
	left := []int{len(b)}
	r.N(300)
	left = append(left, r.Rest())
	r.Text(3)
	left = append(left, r.Rest())
	r.Ids(1)
	left = append(left, r.Rest())
	r.Raw(2)
	left = append(left, r.Rest())
	if !slices.Equal(left, []int{41, 39, 35, 2, 0}) || Read(b).Rest() != 41 {
		t.Fatal(left)
	}
}

// P8.2: End is asked without anything being given up: what is left may still be read.
func TestEndTellsWhetherBytesAreLeft(t *testing.T) {
	if e := Read(nil).End(); e != api.OK {
		t.Fatalf("nothing to read: %d", e)
	}
	r := Read([]byte{5, 6})
	for want := uint64(5); want <= 6; want++ {
		if e := r.End(); e != api.ErrCodec {
			t.Fatalf("bytes are left: %d", e)
		}
		if x := r.N(9); x != want {
			t.Fatalf("behind End: %d, not %d", x, want)
		}
	}
	if e := r.End(); e != api.OK {
		t.Fatalf("all was read: %d", e)
	}
	if r.N(9); r.End() != api.ErrCodec {
		t.Fatal("read on behind the end, without an error")
	}
}

// P8.2: behind the first failure, whatever it was, good bytes aren't read any more.
func TestNothingIsReadBehindAFailure(t *testing.T) {
	good := written(func(w *Writer) { w.N(5); w.Text([]byte("abc")); w.Ids(sampleIds(2)) })
	fails := []func(r *Reader){
		func(r *Reader) { r.N(4) },
		func(r *Reader) { r.Raw(len(good) + 1) },
		func(r *Reader) { r.Raw(-1) },
		func(r *Reader) { r.Text(4) },
		func(r *Reader) { r.Text(-1) },
		func(r *Reader) { r.Ids(4) },
		func(r *Reader) { r.Ids(-1) },
		func(r *Reader) { r.Ids(5) },
		func(r *Reader) { r.N(5); r.Text(2) },
		func(r *Reader) { r.N(5); r.Text(3); r.Ids(1) },
	}
	for i, fail := range fails {
		r := Read(good)
		fail(r)
		if r.Rest() != 0 || r.End() != api.ErrCodec {
			t.Fatalf("way %d doesn't fail: %d left, error %d", i, r.Rest(), r.End())
		}
		wantFailed(t, r, "behind a failure")
	}
}

// P8.2, P1: a Reader that nobody made has failed.
func TestAReaderThatNobodyMadeHasFailed(t *testing.T) {
	wantFailed(t, nil, "a nil one")
	wantFailed(t, &Reader{}, "a zero one")
	var none *Reader
	if none.Rest() != 0 || none.End() != api.ErrCodec || (&Reader{}).End() != api.ErrCodec {
		t.Fatal("one that nobody made hasn't failed")
	}
}

// P2: the Reader goes through bytes of its own, and so does whoever it answers.
func TestReaderHasMemoryOfItsOwn(t *testing.T) {
	was := written(func(w *Writer) {
		w.Raw([]byte("abc"))
		w.Text([]byte("defg"))
		w.Ids(sampleIds(2))
		w.Raw([]byte("xyz"))
	})
	b := roomy(was)
	r := Read(b)
	raw, text, ids := r.Raw(3), r.Text(4), r.Ids(2)
	untouched(t, b, was)
	if cap(raw) != 3 || cap(text) != 4 || cap(ids) != 2 {
		t.Fatalf("room is handed out: %d, %d, %d", cap(raw), cap(text), cap(ids))
	}
	raw[0], text[0], ids[0] = '!', '!', api.Id{}
	untouched(t, b, was)
	clear(b)
	if string(raw) != "!bc" || string(text) != "!efg" || ids[1] != sampleIds(2)[1] {
		t.Fatal("a change to the argument changed an answer")
	}
	if got := r.Raw(3); string(got) != "xyz" {
		t.Fatalf("a change to the argument is told: %q", got)
	}
	if r.End() != api.OK {
		t.Fatal("what lies behind the length was read")
	}
}

// P2: what lies behind the length isn't there.
func TestReaderReadsNothingBehindTheLength(t *testing.T) {
	long := append([]byte{0x80, 1, 7}, sample(200)...)
	wantBadNumber(t, long[:1], "its last byte lies behind the length")
	r := Read(long[:3])
	if got := r.Text(200); len(got) != 0 {
		t.Fatalf("%d bytes are told", len(got))
	}
	wantFailed(t, r, "a text behind the length")
}

// P3: two Readers of the same bytes know nothing of each other.
func TestReadersGoByThemselves(t *testing.T) {
	b := []byte{1, 2, 3}
	x, y := Read(b), Read(b)
	if x.N(9) != 1 || x.N(9) != 2 || y.N(9) != 1 || x.N(9) != 3 || y.Rest() != 2 {
		t.Fatal("one moved the other")
	}
	if y.N(0); y.End() != api.ErrCodec || x.End() != api.OK {
		t.Fatal("one failed with the other")
	}
}
