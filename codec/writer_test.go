package codec

import (
	"bytes"
	"encoding/binary"
	"slices"
	"testing"

	"tabularium/api"
)

// written is what a new Writer has behind a call.
func written(call func(w *Writer)) []byte {
	w := &Writer{}
	call(w)
	return w.Bytes()
}

// P8.1: numbers, byte by byte.
func TestNumbersByteByByte(t *testing.T) {
	cases := []struct {
		x    uint64
		want []byte
	}{
		{0, []byte{0}},
		{1, []byte{1}},
		{127, []byte{0x7f}},
		{128, []byte{0x80, 1}},
		{129, []byte{0x81, 1}},
		{255, []byte{0xff, 1}},
		{256, []byte{0x80, 2}},
		{300, []byte{0xac, 2}},
		{16383, []byte{0xff, 0x7f}},
		{16384, []byte{0x80, 0x80, 1}},
		{1<<63 - 1, []byte{0xff, 0xff, 0xff, 0xff, 0xff, 0xff, 0xff, 0xff, 0x7f}},
		{1 << 63, []byte{0x80, 0x80, 0x80, 0x80, 0x80, 0x80, 0x80, 0x80, 0x80, 1}},
		{1<<64 - 1, []byte{0xff, 0xff, 0xff, 0xff, 0xff, 0xff, 0xff, 0xff, 0xff, 1}},
	}
	for _, c := range cases {
		if got := written(func(w *Writer) { w.N(c.x) }); !bytes.Equal(got, c.want) {
			t.Errorf("N(%d): %x, not %x", c.x, got, c.want)
		}
	}
}

// P8.1: numbers as the library writes them, which is the same way; one behind the other.
func TestNumbersAsTheLibraryWritesThem(t *testing.T) {
	var want []byte
	for _, x := range numbers() {
		one := binary.AppendUvarint(nil, x)
		if got := written(func(w *Writer) { w.N(x) }); !bytes.Equal(got, one) {
			t.Fatalf("N(%d): %x, not %x", x, got, one)
		}
		want = append(want, one...)
	}
	if got := written(func(w *Writer) { w.N(numbers()...) }); !bytes.Equal(got, want) {
		t.Fatal("many numbers in one call aren't those of one call each")
	}
	if got := written(func(w *Writer) { w.N() }); len(got) != 0 {
		t.Fatalf("N of no number: %x", got)
	}
}

// P8.1: bytes as they are, without their length.
func TestRawIsBytesAsTheyAre(t *testing.T) {
	for _, n := range []int{0, 1, 2, 127, 128, 300, 70000} {
		b := sample(n)
		if got := written(func(w *Writer) { w.Raw(b) }); !bytes.Equal(got, b) {
			t.Fatalf("Raw of %d bytes wrote %d others", n, len(got))
		}
	}
	if got := written(func(w *Writer) { w.Raw(nil); w.Raw([]byte{0x80, 0}); w.Raw(nil) }); !bytes.Equal(got, []byte{0x80, 0}) {
		t.Fatalf("%x", got)
	}
}

// P8.1: of each text its length and its bytes.
func TestTextIsItsLengthAndItsBytes(t *testing.T) {
	if got := written(func(w *Writer) { w.Text([]byte("ab"), nil, []byte("c")) }); !bytes.Equal(got, []byte{2, 'a', 'b', 0, 1, 'c'}) {
		t.Fatalf("%x", got)
	}
	for _, n := range []int{0, 1, 127, 128, 16383, 16384, 70000} {
		b := sample(n)
		want := append(binary.AppendUvarint(nil, uint64(n)), b...)
		if got := written(func(w *Writer) { w.Text(b) }); !bytes.Equal(got, want) {
			t.Fatalf("a text of %d bytes", n)
		}
	}
	if got := written(func(w *Writer) { w.Text() }); len(got) != 0 {
		t.Fatalf("Text of no text: %x", got)
	}
	if got := written(func(w *Writer) { w.Text(nil) }); !bytes.Equal(got, []byte{0}) {
		t.Fatalf("Text of one empty text: %x", got)
	}
}

// P8.1: how many ids, and 32 bytes each.
func TestIdsAreTheirNumberAndTheirBytes(t *testing.T) {
	for _, n := range []int{0, 1, 2, 127, 128, 1000} {
		want := append(binary.AppendUvarint(nil, uint64(n)), sample(32*n)...)
		if got := written(func(w *Writer) { w.Ids(sampleIds(n)) }); !bytes.Equal(got, want) {
			t.Fatalf("%d ids", n)
		}
	}
	if got := written(func(w *Writer) { w.Ids(nil) }); !bytes.Equal(got, []byte{0}) {
		t.Fatalf("no ids: %x", got)
	}
}

// P8.1: all that was written, in its order; asking doesn't end it.
func TestBytesIsAllThatWasWritten(t *testing.T) {
	w := &Writer{}
	w.N(300)
	w.Raw([]byte("z"))
	w.Text([]byte("ab"))
	w.Ids([]api.Id{{1}})
	want := append([]byte{0xac, 2, 'z', 2, 'a', 'b', 1, 1}, make([]byte, 31)...)
	for range 2 {
		if got := w.Bytes(); !bytes.Equal(got, want) {
			t.Fatalf("%x, not %x", got, want)
		}
	}
	w.N(5)
	if got := w.Bytes(); !bytes.Equal(got, append(want, 5)) {
		t.Fatalf("gone on: %x", got)
	}
}

// P8.1: a zero Writer has nothing, however it came to be; it may be written to.
func TestAZeroWriterHasNothing(t *testing.T) {
	var zero Writer
	if got := zero.Bytes(); len(got) != 0 {
		t.Fatalf("%x", got)
	}
	zero.N(7)
	if got := zero.Bytes(); !bytes.Equal(got, []byte{7}) {
		t.Fatalf("%x", got)
	}
	if got := new(Writer).Bytes(); len(got) != 0 {
		t.Fatalf("a new one has %x", got)
	}
}

// P8.1, P1: of a nil Writer nothing is written.
func TestANilWriterWritesNothing(t *testing.T) {
	var w *Writer
	w.N()
	w.N(1, 300)
	w.Raw(nil)
	w.Raw([]byte("abc"))
	w.Text()
	w.Text([]byte("abc"), nil)
	w.Ids(nil)
	w.Ids([]api.Id{{1}})
	if got := w.Bytes(); len(got) != 0 {
		t.Fatalf("%x", got)
	}
}

// P2: neither arguments nor answers are the Writer's own memory.
func TestWriterHasMemoryOfItsOwn(t *testing.T) {
	w := &Writer{}
	raw, text := roomy([]byte("abc")), roomy([]byte("defg"))
	list := [][]byte{text, text, []byte("behind")}
	ids := sampleIds(3)
	w.Raw(raw)
	w.Text(list[:2]...)
	w.Ids(ids[:2])
	untouched(t, raw, []byte("abc"))
	untouched(t, text, []byte("defg"))
	if string(list[2]) != "behind" || !slices.Equal(ids, sampleIds(3)) {
		t.Fatal("a list was changed")
	}
	was := w.Bytes()
	raw[0], text[0], ids[0] = '!', '!', api.Id{}
	got := w.Bytes()
	if !bytes.Equal(got, was) {
		t.Fatal("a change to an argument is told")
	}
	if cap(got) != len(got) {
		t.Fatalf("room of %d is handed out behind %d bytes", cap(got), len(got))
	}
	got[0] = '!'
	if again := w.Bytes(); !bytes.Equal(again, was) {
		t.Fatal("a change to an answer is told")
	}
	w.N(1, 2, 3)
	if !bytes.Equal(was, append([]byte("abc\x04defg\x04defg\x02"), sample(64)...)) {
		t.Fatalf("what is written later changed an answer: %x", was)
	}
}

// P3: two Writers know nothing of each other.
func TestWritersGoByThemselves(t *testing.T) {
	a, b := &Writer{}, &Writer{}
	a.N(1)
	b.N(2)
	a.N(3)
	if !bytes.Equal(a.Bytes(), []byte{1, 3}) || !bytes.Equal(b.Bytes(), []byte{2}) {
		t.Fatalf("%x, %x", a.Bytes(), b.Bytes())
	}
}
