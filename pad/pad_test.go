package pad

import (
	"bytes"
	"encoding/binary"
	"math"
	"slices"
	"testing"

	"tabularium/api"
)

// allLengths are the lengths that the document tells, written out.
var allLengths = []int{32, 64, 128, 256, 512, 1024, 2048, 4096, 8192, 16384, 32768, 65536}

// sample is n bytes without a short period, so that a byte at a wrong place shows.
func sample(n int) []byte {
	out := make([]byte, n)
	x := uint32(1)
	for i := range out {
		x = x*1664525 + 1013904223
		out[i] = byte(x >> 24)
	}
	return out
}

// roomy is b with other bytes behind its length, which nobody may read or write.
func roomy(b []byte) []byte {
	all := append(slices.Clone(b), bytes.Repeat([]byte{0xde, 0xad}, 64)...)
	return all[:len(b)]
}

// untouched fails if b, made by roomy of was, has changed or was written behind.
func untouched(t *testing.T, b, was []byte) {
	t.Helper()
	if !bytes.Equal(b, was) {
		t.Fatalf("an argument was changed: %x", b)
	}
	if got := b[len(b) : len(b)+128]; !bytes.Equal(got, bytes.Repeat([]byte{0xde, 0xad}, 64)) {
		t.Fatalf("written behind the length: %x", got)
	}
}

// edgeLengths are the lengths of texts around each bucket's ends.
func edgeLengths() []int {
	out := []int{0, 1, 3, 4, 5}
	for _, size := range allLengths {
		for n := size - 6; n <= size+1; n++ {
			if n <= api.MaxPlain {
				out = append(out, n)
			}
		}
	}
	return out
}

// plainBucket is the document's sentence, at any n that doesn't go round.
func plainBucket(n int) int {
	if n < 0 || n > 65532 {
		return 0
	}
	for _, size := range allLengths {
		if size >= n+4 {
			return size
		}
	}
	return 0
}

// plainPut is a Put, written out by other means; b has to fit.
func plainPut(b []byte) []byte {
	out := binary.LittleEndian.AppendUint32(nil, uint32(len(b)))
	out = append(out, b...)
	return append(out, make([]byte, plainBucket(len(b))-len(out))...)
}

func mustPut(t *testing.T, b []byte) []byte {
	t.Helper()
	out, e := Put(b)
	if e != api.OK {
		t.Fatalf("Put of %d bytes: error %d", len(b), e)
	}
	return out
}

// wantPad fails if b is the Put of a text, or if something beside the error is answered.
func wantPad(t *testing.T, b []byte, why string) {
	t.Helper()
	if got, e := Of(b); e != api.ErrPad || got != nil {
		t.Fatalf("%s: Of answered %d bytes, error %d, not ErrPad alone", why, len(got), e)
	}
}

// P5.1: every length, rising, and no other.
func TestBucketsTellsEveryLength(t *testing.T) {
	if got := slices.Collect(Buckets()); !slices.Equal(got, allLengths) {
		t.Fatal(got)
	}
}

// P5.1, P5: left at any place, and gone through again, also within each other.
func TestBucketsMayBeLeftAndGoneThroughAgain(t *testing.T) {
	lengths := Buckets()
	for stop := range allLengths {
		var got []int
		for size := range lengths {
			got = append(got, size)
			if len(got) == stop+1 {
				break
			}
		}
		if !slices.Equal(got, allLengths[:stop+1]) {
			t.Fatalf("left at place %d: %v", stop, got)
		}
	}
	for range lengths {
		if got := slices.Collect(lengths); !slices.Equal(got, allLengths) {
			t.Fatalf("gone through within itself: %v", got)
		}
	}
}

// P5.1: the document's example, and where each length begins and ends.
func TestBucketAtItsEdges(t *testing.T) {
	for n, want := range map[int]int{28: 32, 29: 64, 0: 32, 60: 64, 61: 128, 32764: 32768, 32765: 65536, 65531: 65536, 65532: 65536} {
		if got := Bucket(n); got != want {
			t.Errorf("Bucket(%d): %d, not %d", n, got, want)
		}
	}
}

// P5.1: every n that has a bucket, and some way beyond on both sides.
func TestBucketIsTheFirstThatFits(t *testing.T) {
	for n := -100; n <= 140000; n++ {
		if got, want := Bucket(n), plainBucket(n); got != want {
			t.Fatalf("Bucket(%d): %d, not %d", n, got, want)
		}
	}
}

// P5.1, P1: numbers that have none, up to those that go round if 4 is added.
func TestBucketOfWhatHasNone(t *testing.T) {
	for _, n := range []int{-1, -4, -5, -32, math.MinInt, math.MinInt + 1, math.MinInt32, 65533, 65536, 131072, math.MaxInt32 - 4, math.MaxInt32, math.MaxInt - 4, math.MaxInt - 3, math.MaxInt} {
		if got := Bucket(n); got != 0 {
			t.Errorf("Bucket(%d): %d, not 0", n, got)
		}
	}
}

// P5.2: byte by byte.
func TestPutOfAShortText(t *testing.T) {
	want := append([]byte{3, 0, 0, 0, 'a', 'b', 'c'}, make([]byte, 25)...)
	if got := mustPut(t, []byte("abc")); !bytes.Equal(got, want) {
		t.Fatalf("%x", got)
	}
}

// P5.2: around each bucket's ends; the lengths there have unlike bytes at every place.
func TestPutAtTheEdges(t *testing.T) {
	for _, n := range edgeLengths() {
		b := sample(n)
		if got := mustPut(t, b); !bytes.Equal(got, plainPut(b)) {
			t.Fatalf("Put of %d bytes: %x", n, got)
		}
	}
}

// P5.2: the greatest text that has a bucket, and those beyond.
func TestPutOfWhatIsTooLong(t *testing.T) {
	if got := mustPut(t, sample(api.MaxPlain)); len(got) != 65536 {
		t.Fatal(len(got))
	}
	for _, n := range []int{65533, 65535, 65536, 65537, 131072, 1 << 20} {
		if got, e := Put(make([]byte, n)); e != api.ErrLong || got != nil {
			t.Errorf("Put of %d bytes: %d bytes, error %d", n, len(got), e)
		}
	}
}

// P5.2, P3: no text is an empty text.
func TestNoTextIsAnEmptyOne(t *testing.T) {
	for _, b := range [][]byte{nil, {}} {
		put := mustPut(t, b)
		if !bytes.Equal(put, make([]byte, 32)) {
			t.Fatalf("%x", put)
		}
		if got, e := Of(put); e != api.OK || len(got) != 0 {
			t.Fatal(got, e)
		}
	}
	wantPad(t, nil, "nil")
	wantPad(t, []byte{}, "empty")
}

// P5.3: as long as another text of its bucket, whatever it says.
func TestPutHasFewLengths(t *testing.T) {
	for _, n := range edgeLengths() {
		for _, b := range [][]byte{make([]byte, n), sample(n), bytes.Repeat([]byte{0xff}, n)} {
			if got, want := len(mustPut(t, b)), plainBucket(n); got != want {
				t.Fatalf("Put of %d bytes: %d long, not %d", n, got, want)
			}
		}
	}
}

// P5.3: there and back; texts that end in bytes 0 keep them.
func TestOfOfPutIsTheText(t *testing.T) {
	for _, n := range edgeLengths() {
		for _, b := range [][]byte{make([]byte, n), sample(n), bytes.Repeat([]byte{0xff}, n)} {
			got, e := Of(mustPut(t, b))
			if e != api.OK || !bytes.Equal(got, b) {
				t.Fatalf("%d bytes: %d bytes back, error %d", n, len(got), e)
			}
		}
	}
}

// P5.2: each byte behind the text that isn't 0.
func TestOfWithSomethingBehindTheText(t *testing.T) {
	for _, n := range []int{0, 3, 27, 29, 1000} {
		put := mustPut(t, sample(n))
		for at := 4 + n; at < len(put); at++ {
			for _, x := range []byte{1, 0x80} {
				b := slices.Clone(put)
				b[at] = x
				wantPad(t, b, "a byte behind the text")
			}
		}
	}
}

// P5.2: bytes that are no Put by their number, whatever length they tell.
func TestOfOfAWrongNumberOfBytes(t *testing.T) {
	for n := range 300 {
		if !slices.Contains(allLengths, n) {
			wantPad(t, make([]byte, n), "no length of a Put")
		}
	}
	for _, n := range []int{65535, 65537, 131072} {
		b := make([]byte, n)
		binary.LittleEndian.PutUint32(b, uint32(n-4))
		wantPad(t, b, "no length of a Put")
	}
	for _, n := range []int{0, 28, 29, 60} {
		put := mustPut(t, sample(n))
		wantPad(t, put[:len(put)-1], "a byte short")
		wantPad(t, append(slices.Clone(put), 0), "a byte too many")
		wantPad(t, append(slices.Clone(put), make([]byte, len(put))...), "a greater bucket than the first that fits")
	}
}

// P5.2: a length of another bucket than the one the bytes fill, below and above.
func TestOfOfAWrongLength(t *testing.T) {
	for _, size := range allLengths {
		for _, n := range []uint32{0, 27, 28, 29, 60, 61, 65532, 65533, 65536, 1 << 24, 1<<31 - 4, 1<<31 - 1, 1 << 31, 1<<32 - 32, 1<<32 - 4, 1<<32 - 1, uint32(size), uint32(size - 3), uint32(size / 2), uint32(size/2 - 4)} {
			b := make([]byte, size)
			binary.LittleEndian.PutUint32(b, n)
			if plainBucket(int(n)) == size {
				if got, e := Of(b); e != api.OK || len(got) != int(n) {
					t.Fatalf("%d bytes that tell %d: %d bytes, error %d", size, n, len(got), e)
				}
				continue
			}
			wantPad(t, b, "a length of another bucket")
		}
	}
}

// P5.2: whatever Of takes is the Put of what it answers, and it takes every Put; over all short heads.
func TestOfTakesJustThePuts(t *testing.T) {
	for n := range 1 << 16 {
		b := make([]byte, 64)
		b[0], b[1] = byte(n), byte(n>>8)
		copy(b[4:], bytes.Repeat([]byte{7}, 40))
		got, e := Of(b)
		if fits := n >= 40 && n <= 60; fits != (e == api.OK) {
			t.Fatalf("length %d: error %d", n, e)
		}
		if e == api.OK && !bytes.Equal(mustPut(t, got), b) {
			t.Fatalf("length %d: not the Put of %x", n, got)
		}
	}
}

// P2: nothing is changed, nothing behind the length read, nothing shared.
func TestNothingIsShared(t *testing.T) {
	for _, n := range []int{0, 3, 28, 29, 65532} {
		was := sample(n)
		b := roomy(was)
		put := mustPut(t, b)
		untouched(t, b, was)
		if !bytes.Equal(put, plainPut(was)) {
			t.Fatalf("%d bytes: what lies behind was read", n)
		}
		in := roomy(put)
		text, e := Of(in)
		if e != api.OK {
			t.Fatal(e)
		}
		untouched(t, in, plainPut(was))
		if n > 0 {
			text[0] ^= 0xff
			untouched(t, in, plainPut(was))
		}
		if cap(put) != len(put) || cap(text) != len(text) {
			t.Fatalf("%d bytes: something is handed out behind a length", n)
		}
		in[0], put[5] = 0xaa, 0xaa
		untouched(t, b, was)
	}
}

// P2: two answers of one argument are two.
func TestTwoAnswersAreTwo(t *testing.T) {
	b := sample(20)
	first, second := mustPut(t, b), mustPut(t, b)
	first[4] ^= 0xff
	if !bytes.Equal(second, plainPut(b)) {
		t.Fatal("Put answers the same memory twice")
	}
	one, _ := Of(second)
	two, _ := Of(second)
	one[0] ^= 0xff
	if !bytes.Equal(two, b) || !bytes.Equal(second, plainPut(b)) {
		t.Fatal("Of answers memory that is not its own")
	}
}

// P2: a Put whose end is cut off isn't read on behind its length.
func TestOfReadsNothingBehindTheLength(t *testing.T) {
	put := mustPut(t, sample(40))
	for n := range len(put) {
		wantPad(t, put[:n], "a piece of a Put")
	}
	head := roomy([]byte{60, 0})
	wantPad(t, head, "a head that is cut off")
	untouched(t, head, []byte{60, 0})
}
