package codec

import (
	"bytes"
	"slices"
	"testing"

	"tabularium/api"
)

// sample is n bytes without a short period, so that a byte at a wrong place shows.
func sample(n int) []byte {
	out := make([]byte, n)
	x := uint32(1)
	for i := range out {
		x = x*1664525 + 1013904223
		out[i] = byte(x >> 24)
	}
	return out
}

// sampleIds is n ids, no two of them alike.
func sampleIds(n int) []api.Id {
	out := make([]api.Id, 0, n)
	for b := range slices.Chunk(sample(32*n), 32) {
		out = append(out, api.Id(b))
	}
	return out
}

// roomy is b with other bytes behind its length, which nobody may read or write.
func roomy(b []byte) []byte {
	all := append(slices.Clone(b), bytes.Repeat([]byte{0xde, 0xad}, 64)...)
	return all[:len(b)]
}

// untouched fails if b, made by roomy of was, has changed or was written behind.
func untouched(t *testing.T, b, was []byte) {
	t.Helper()
	if !bytes.Equal(b, was) {
		t.Fatalf("an argument was changed: %x", b)
	}
	if got := b[len(b) : len(b)+128]; !bytes.Equal(got, bytes.Repeat([]byte{0xde, 0xad}, 64)) {
		t.Fatalf("written behind the length: %x", got)
	}
}

// numbers are such as stand at the edges of the lengths that a number may have, and some between.
func numbers() []uint64 {
	out := []uint64{0, 1, 2, 5, 100, 300, 1000, 65535, 65536}
	for bit := 1; bit < 64; bit++ {
		edge := uint64(1) << bit
		out = append(out, edge-2, edge-1, edge, edge+1, edge+edge/3)
	}
	return append(out, 1<<64-2, 1<<64-1)
}

// step is one thing that is written, and read again.
type step struct {
	kind  int
	n     uint64
	bytes []byte
	ids   []api.Id
}

// steps is a script that hangs on seed alone.
func steps(seed uint32, n int) []step {
	out := make([]step, n)
	x := seed
	next := func(below uint32) uint32 {
		x = x*1664525 + 1013904223
		return (x >> 8) % below
	}
	for i := range out {
		s := step{kind: int(next(4))}
		switch s.kind {
		case 0:
			s.n = uint64(next(1<<24)) << next(41) >> next(30)
		case 1, 2:
			s.bytes = sample(int(next(300)))
		case 3:
			s.ids = sampleIds(int(next(5)))
		}
		out[i] = s
	}
	return out
}

func (s step) write(w *Writer) {
	switch s.kind {
	case 0:
		w.N(s.n)
	case 1:
		w.Raw(s.bytes)
	case 2:
		w.Text(s.bytes)
	case 3:
		w.Ids(s.ids)
	}
}

// read says whether the same thing stands next, with no more room than it needs.
func (s step) read(r *Reader) bool {
	switch s.kind {
	case 0:
		return r.N(s.n) == s.n
	case 1:
		return bytes.Equal(r.Raw(len(s.bytes)), s.bytes)
	case 2:
		return bytes.Equal(r.Text(len(s.bytes)), s.bytes)
	}
	return slices.Equal(r.Ids(len(s.ids)), s.ids)
}

// P8.3: whatever is written one behind the other is read again, and nothing is left.
func TestThereAndBack(t *testing.T) {
	for seed := range uint32(300) {
		script := steps(seed, 1+int(seed%20))
		w := &Writer{}
		for _, s := range script {
			s.write(w)
		}
		r := Read(w.Bytes())
		for i, s := range script {
			if !s.read(r) {
				t.Fatalf("script %d, step %d of kind %d isn't read again", seed, i, s.kind)
			}
		}
		if r.End() != api.OK || r.Rest() != 0 {
			t.Fatalf("script %d: error %d, %d bytes left", seed, r.End(), r.Rest())
		}
	}
}

// P8.3: cut anywhere, what was written isn't read any more.
func TestCutOffIsNotReadAgain(t *testing.T) {
	script := []step{{kind: 0, n: 300}, {kind: 2, bytes: sample(130)}, {kind: 3, ids: sampleIds(2)}, {kind: 1, bytes: sample(3)}, {kind: 0, n: 1<<64 - 1}}
	w := &Writer{}
	for _, s := range script {
		s.write(w)
	}
	all := w.Bytes()
	for n := range all {
		r := Read(all[:n])
		good := true
		for _, s := range script {
			good = s.read(r) && good
		}
		if good || r.End() != api.ErrCodec || r.Rest() != 0 {
			t.Fatalf("the first %d of %d bytes were read as all of them", n, len(all))
		}
	}
}

// P8.3: every number there and back.
func TestEveryNumberIsReadAgain(t *testing.T) {
	for _, x := range numbers() {
		w := &Writer{}
		w.N(x)
		r := Read(w.Bytes())
		if got := r.N(x); got != x || r.End() != api.OK {
			t.Fatalf("%d was read as %d, error %d", x, got, r.End())
		}
	}
}

// oneWay fails if b is read as a number, and isn't what that number is written as.
func oneWay(t *testing.T, b []byte) {
	t.Helper()
	r := Read(b)
	x := r.N(1<<64 - 1)
	if r.End() != api.OK {
		return
	}
	w := &Writer{}
	w.N(x)
	if got := w.Bytes(); !bytes.Equal(got, b) {
		t.Fatalf("%d is read out of %x too, and written as %x", x, b, got)
	}
}

// P8.3: one way to write a number: all of up to two bytes, and bytes at the edges up to twelve.
func TestANumberIsWrittenInOneWay(t *testing.T) {
	for a := range 256 {
		oneWay(t, []byte{byte(a)})
		for b := range 256 {
			oneWay(t, []byte{byte(a), byte(b)})
		}
	}
	edges := []byte{0, 1, 2, 3, 0x7f, 0x80, 0x81, 0x82, 0xff}
	for n := 0; n <= 11; n++ {
		for _, fill := range []byte{0x80, 0x81, 0xaa, 0xff} {
			for _, a := range edges {
				for _, b := range edges {
					oneWay(t, append(bytes.Repeat([]byte{fill}, n), a, b))
				}
			}
		}
	}
}

// P8.3: one way to write texts and ids: whatever is read of small bytes is written as these bytes.
func TestTextsAndIdsAreWrittenInOneWay(t *testing.T) {
	tails := [][]byte{{}, {0}, {1, 7}, {0x80, 0}, {0x81, 0}, {2, 5, 6}, {2, 5}, {1, 5, 6}, {0x80}}
	for _, b := range tails {
		r := Read(b)
		text := r.Text(1000)
		if r.End() == api.OK {
			w := &Writer{}
			w.Text(text)
			if got := w.Bytes(); !bytes.Equal(got, b) {
				t.Fatalf("text %x is read out of %x too, and written as %x", text, b, got)
			}
		}
	}
	for _, head := range [][]byte{{0}, {1}, {2}, {0x81, 0}, {0x80, 0}, {0x82, 0x80, 0}} {
		for _, size := range []int{0, 31, 32, 33, 64, 65} {
			b := append(slices.Clone(head), sample(size)...)
			r := Read(b)
			ids := r.Ids(1000)
			if r.End() != api.OK {
				continue
			}
			w := &Writer{}
			w.Ids(ids)
			if got := w.Bytes(); !bytes.Equal(got, b) {
				t.Fatalf("%d ids are read out of %x too, and written as %x", len(ids), b, got)
			}
		}
	}
}

// P8.3, P3: the same is written by many calls as by one, and of nil as of nothing.
func TestOneWayHoweverItIsCalled(t *testing.T) {
	once, often := &Writer{}, &Writer{}
	once.N(1, 300, 0)
	once.Text([]byte("ab"), nil, []byte("c"))
	once.Raw([]byte("xyz"))
	once.Ids(nil)
	for _, x := range []uint64{1, 300, 0} {
		often.N(x)
	}
	often.Text([]byte("ab"))
	often.Text([]byte{})
	often.Text([]byte("c"))
	often.Raw([]byte("x"))
	often.Raw([]byte("yz"))
	often.Ids([]api.Id{})
	if a, b := once.Bytes(), often.Bytes(); !bytes.Equal(a, b) {
		t.Fatalf("%x, and %x", a, b)
	}
}
