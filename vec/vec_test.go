package vec

import (
	"bytes"
	"math"
	"slices"
	"testing"
)

// sample is n bytes, neighbours unlike, so that one at a wrong place shows.
func sample(n int) []byte {
	out := make([]byte, n)
	for i := range out {
		out[i] = byte(7*i + 3)
	}
	return out
}

// collect goes through Chunks once.
func collect(b []byte, n int) [][]byte {
	return slices.Collect(Chunks(b, n))
}

// roomy is b with other bytes behind its length, which nobody may read or write.
func roomy(b []byte) []byte {
	all := append(slices.Clone(b), 0xde, 0xad, 0xbe, 0xef, 0xde, 0xad, 0xbe, 0xef)
	return all[:len(b)]
}

func behind(t *testing.T, b []byte) {
	t.Helper()
	if got := b[len(b) : len(b)+8]; !bytes.Equal(got, []byte{0xde, 0xad, 0xbe, 0xef, 0xde, 0xad, 0xbe, 0xef}) {
		t.Fatalf("written behind the length: %x", got)
	}
}

// P1.1

func TestXor(t *testing.T) {
	cases := []struct{ a, b, want []byte }{
		{nil, nil, nil},
		{[]byte{}, nil, nil},
		{nil, []byte{1}, nil},
		{[]byte{1}, []byte{}, nil},
		{[]byte{0xf0}, []byte{0x3c}, []byte{0xcc}},
		{[]byte{0xff, 0x00, 0x80}, []byte{0x0f, 0xff, 0x80}, []byte{0xf0, 0xff, 0x00}},
		{[]byte{1, 2, 3}, []byte{3, 2}, []byte{2, 0}},
		{[]byte{3, 2}, []byte{1, 2, 3}, []byte{2, 0}},
	}
	for _, c := range cases {
		if got := Xor(c.a, c.b); !bytes.Equal(got, c.want) {
			t.Errorf("Xor(%x, %x) = %x, not %x", c.a, c.b, got, c.want)
		}
	}
}

func TestXorOfAllBytes(t *testing.T) {
	for x := range 256 {
		for y := range 256 {
			if got := Xor([]byte{byte(x)}, []byte{byte(y)}); len(got) != 1 || got[0] != byte(x)^byte(y) {
				t.Fatalf("Xor(%x, %x) = %x", x, y, got)
			}
		}
	}
}

func TestXorOwnMemory(t *testing.T) {
	a, b := roomy([]byte{1, 2, 3}), roomy([]byte{4, 5})
	got := Xor(a, b)
	if cap(got) != len(got) {
		t.Errorf("room of %d is handed out behind %d bytes", cap(got), len(got))
	}
	got[0], got[1] = 0x55, 0x55
	if !bytes.Equal(a, []byte{1, 2, 3}) || !bytes.Equal(b, []byte{4, 5}) {
		t.Errorf("arguments became %x, %x", a, b)
	}
	behind(t, a)
	behind(t, b)
	if same := Xor(a, a); !bytes.Equal(same, []byte{0, 0, 0}) || a[0] != 1 {
		t.Errorf("Xor of one slice with itself: %x, %x", same, a)
	}
}

func TestEqual(t *testing.T) {
	cases := []struct {
		a, b []byte
		want bool
	}{
		{nil, nil, true},
		{nil, []byte{}, true},
		{[]byte{}, nil, true},
		{nil, []byte{0}, false},
		{[]byte{0}, nil, false},
		{[]byte{0}, []byte{0}, true},
		{[]byte{1, 2, 3}, []byte{1, 2, 3}, true},
		{[]byte{1, 2, 3}, []byte{1, 2}, false},
		{[]byte{1, 2}, []byte{1, 2, 3}, false},
		{[]byte{1, 2}, []byte{1, 2, 0}, false},
		{[]byte{1, 2}, []byte{2, 1}, false},
		{[]byte{3, 3}, []byte{4, 4}, false},
		{[]byte{0x80, 0x80}, []byte{0, 0}, false},
	}
	for _, c := range cases {
		if got := Equal(c.a, c.b); got != c.want {
			t.Errorf("Equal(%x, %x) = %v", c.a, c.b, got)
		}
	}
}

func TestEqualToldByEachBit(t *testing.T) {
	a := sample(40)
	for bit := range 8 * len(a) {
		b := slices.Clone(a)
		if !Equal(a, b) {
			t.Fatal("a copy is unlike")
		}
		b[bit/8] ^= 1 << (bit % 8)
		if Equal(a, b) || Equal(b, a) {
			t.Fatalf("bit %d isn't seen", bit)
		}
	}
}

func TestEqualReadsNothingBehind(t *testing.T) {
	a, b := []byte{1, 2, 9}, []byte{1, 2, 8}
	if !Equal(a[:2], b[:2]) {
		t.Error("what lies behind the length was read")
	}
}

// P1.2

func TestWords(t *testing.T) {
	cases := []struct {
		b    []byte
		want []uint32
	}{
		{nil, nil},
		{[]byte{}, nil},
		{[]byte{1}, nil},
		{[]byte{1, 2, 3}, nil},
		{[]byte{1, 2, 3, 4}, []uint32{0x04030201}},
		{[]byte{1, 2, 3, 4, 5}, []uint32{0x04030201}},
		{[]byte{1, 2, 3, 4, 5, 6, 7}, []uint32{0x04030201}},
		{[]byte{1, 2, 3, 4, 5, 6, 7, 8}, []uint32{0x04030201, 0x08070605}},
		{[]byte{0, 0, 0, 0x80, 0xff, 0, 0, 0}, []uint32{0x80000000, 0xff}},
		{[]byte{0xff, 0xff, 0xff, 0xff}, []uint32{math.MaxUint32}},
	}
	for _, c := range cases {
		if got := Words(c.b); !slices.Equal(got, c.want) {
			t.Errorf("Words(%x) = %x, not %x", c.b, got, c.want)
		}
	}
}

func TestWordsReadsNothingBehind(t *testing.T) {
	b := roomy([]byte{1, 2, 3, 4, 5, 6})
	got := Words(b)
	if !slices.Equal(got, []uint32{0x04030201}) || cap(got) != 1 {
		t.Errorf("Words = %x with room of %d", got, cap(got))
	}
	got[0] = 0
	if !bytes.Equal(b, []byte{1, 2, 3, 4, 5, 6}) {
		t.Errorf("the argument became %x", b)
	}
	behind(t, b)
}

func TestBytes(t *testing.T) {
	cases := []struct {
		l    []uint32
		want []byte
	}{
		{nil, nil},
		{[]uint32{}, nil},
		{[]uint32{0}, []byte{0, 0, 0, 0}},
		{[]uint32{0x04030201}, []byte{1, 2, 3, 4}},
		{[]uint32{0x04030201, 5}, []byte{1, 2, 3, 4, 5, 0, 0, 0}},
		{[]uint32{0x80000000, math.MaxUint32}, []byte{0, 0, 0, 0x80, 0xff, 0xff, 0xff, 0xff}},
	}
	for _, c := range cases {
		got := Bytes(c.l...)
		if !bytes.Equal(got, c.want) {
			t.Errorf("Bytes(%x) = %x, not %x", c.l, got, c.want)
		}
		if cap(got) != len(got) {
			t.Errorf("Bytes(%x) hands out room of %d behind %d bytes", c.l, cap(got), len(got))
		}
	}
	if got := Bytes(); len(got) != 0 {
		t.Errorf("Bytes() = %x", got)
	}
	if got := Bytes(1, 2); !bytes.Equal(got, []byte{1, 0, 0, 0, 2, 0, 0, 0}) {
		t.Errorf("Bytes(1, 2) = %x", got)
	}
}

func TestBytesLeavesItsList(t *testing.T) {
	l := []uint32{1, 2, 3}
	got := Bytes(l[:2]...)
	if !bytes.Equal(got, []byte{1, 0, 0, 0, 2, 0, 0, 0}) {
		t.Errorf("Bytes = %x", got)
	}
	got[0] = 9
	if !slices.Equal(l, []uint32{1, 2, 3}) {
		t.Errorf("the list became %x", l)
	}
}

// P1.3

func TestRol(t *testing.T) {
	cases := []struct {
		x    uint32
		n    int
		want uint32
	}{
		{0x80000001, 1, 3},
		{3, -1, 0x80000001},
		{0x12345678, 0, 0x12345678},
		{0x12345678, 4, 0x23456781},
		{0x12345678, -4, 0x81234567},
		{0x12345678, 31, 0x091a2b3c},
		{0x12345678, 32, 0x12345678},
		{0x12345678, -32, 0x12345678},
		{0x12345678, 36, 0x23456781},
		{0x12345678, -36, 0x81234567},
		{0x12345678, math.MaxInt, 0x091a2b3c},
		{0x12345678, math.MinInt, 0x12345678},
		{0x12345678, math.MinInt + 1, 0x2468acf0},
		{0, 5, 0},
		{math.MaxUint32, 5, math.MaxUint32},
	}
	for _, c := range cases {
		if got := Rol(c.x, c.n); got != c.want {
			t.Errorf("Rol(%#x, %d) = %#x, not %#x", c.x, c.n, got, c.want)
		}
	}
}

func TestRolBitByBit(t *testing.T) {
	for place := range 32 {
		for n := -100; n <= 100; n++ {
			to := ((place+n)%32 + 32) % 32
			if got := Rol(1<<place, n); got != 1<<to {
				t.Fatalf("Rol(1<<%d, %d) = %#x, not 1<<%d", place, n, got, to)
			}
		}
	}
}

// P1.4

func TestChunks(t *testing.T) {
	cases := []struct {
		b    string
		n    int
		want []string
	}{
		{"abcde", 2, []string{"ab", "cd", "e"}},
		{"abcd", 2, []string{"ab", "cd"}},
		{"abc", 1, []string{"a", "b", "c"}},
		{"abc", 3, []string{"abc"}},
		{"abc", 4, []string{"abc"}},
		{"abc", math.MaxInt, []string{"abc"}},
		{"abc", 0, nil},
		{"abc", -1, nil},
		{"abc", math.MinInt, nil},
		{"", 1, nil},
		{"", 0, nil},
	}
	for _, c := range cases {
		var got []string
		for p := range Chunks([]byte(c.b), c.n) {
			got = append(got, string(p))
		}
		if !slices.Equal(got, c.want) {
			t.Errorf("Chunks(%q, %d) = %q, not %q", c.b, c.n, got, c.want)
		}
	}
	if got := collect(nil, 3); len(got) != 0 {
		t.Errorf("Chunks of nil: %x", got)
	}
}

func TestChunksOfAllLengths(t *testing.T) {
	for size := range 40 {
		b := sample(size)
		for n := 1; n <= 42; n++ {
			got := collect(b, n)
			if len(got) != (size+n-1)/n || !bytes.Equal(slices.Concat(got...), b) {
				t.Fatalf("%d bytes by %d: %x", size, n, got)
			}
			for i, p := range got {
				if i < len(got)-1 && len(p) != n || len(p) < 1 || len(p) > n {
					t.Fatalf("%d bytes by %d: piece %d has %d", size, n, i, len(p))
				}
			}
		}
	}
}

func TestChunksAgain(t *testing.T) {
	seq := Chunks([]byte("abcde"), 2)
	for range 3 {
		var got []string
		for p := range seq {
			got = append(got, string(p))
			clear(p)
		}
		if !slices.Equal(got, []string{"ab", "cd", "e"}) {
			t.Fatalf("gone through again: %q", got)
		}
	}
}

func TestChunksLeft(t *testing.T) {
	seq := Chunks([]byte("abcde"), 2)
	for stop := 1; stop <= 3; stop++ {
		told := 0
		for range seq {
			told++
			if told == stop {
				break
			}
		}
		if told != stop {
			t.Errorf("left behind %d, told %d", stop, told)
		}
	}
	if got := slices.Collect(seq); len(got) != 3 {
		t.Errorf("behind having been left: %q", got)
	}
}

func TestChunksWithinItself(t *testing.T) {
	seq := Chunks([]byte("abc"), 1)
	got := ""
	for p := range seq {
		for q := range seq {
			got += string(p) + string(q) + " "
		}
	}
	if got != "aa ab ac ba bb bc ca cb cc " {
		t.Error(got)
	}
}

func TestChunksOwnMemory(t *testing.T) {
	b := roomy([]byte("abcde"))
	seq := Chunks(b, 2)
	first := slices.Collect(seq)
	for _, p := range first {
		if cap(p) != len(p) {
			t.Errorf("room of %d is handed out behind %q", cap(p), p)
		}
		clear(p)
	}
	if string(b) != "abcde" {
		t.Errorf("the argument became %q", b)
	}
	behind(t, b)
	clear(b)
	if got := slices.Concat(slices.Collect(seq)...); string(got) != "abcde" {
		t.Errorf("a change to the argument behind the call is told: %q", got)
	}
}

func TestChunksKeepsOnWhileChanged(t *testing.T) {
	b := []byte("abcde")
	got := ""
	for p := range Chunks(b, 2) {
		got += string(p) + "."
		clear(b)
		clear(p)
	}
	if got != "ab.cd.e." {
		t.Error(got)
	}
}

// P1.5

func TestBytesOfWords(t *testing.T) {
	for size := range 70 {
		b := sample(size)
		if got := Bytes(Words(b)...); !bytes.Equal(got, b[:size/4*4]) {
			t.Fatalf("%d bytes: %x", size, got)
		}
	}
}

func TestWordsOfBytes(t *testing.T) {
	l := []uint32{0, 1, 0x80000000, 0x01020304, math.MaxUint32}
	for n := range len(l) + 1 {
		if got := Words(Bytes(l[:n]...)); !slices.Equal(got, l[:n]) {
			t.Fatalf("%d words: %x", n, got)
		}
	}
}

func TestXorTwice(t *testing.T) {
	for size := range 40 {
		a := sample(size)
		for other := range 40 {
			b := slices.Repeat([]byte{0xa5}, other)
			if got := Xor(Xor(a, b), b); !bytes.Equal(got, a[:min(size, other)]) {
				t.Fatalf("%d and %d bytes: %x", size, other, got)
			}
		}
	}
}
