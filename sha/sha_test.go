package sha

import (
	"bytes"
	"crypto/sha256"
	"encoding"
	"encoding/binary"
	"encoding/hex"
	"math/bits"
	"slices"
	"testing"

	"tabularium/api"
)

// sample is n bytes without a short period, so that a block at a wrong place shows.
func sample(n int) []byte {
	out := make([]byte, n)
	x := uint32(1)
	for i := range out {
		x = x*1664525 + 1013904223
		out[i] = byte(x >> 24)
	}
	return out
}

// roomy is b with other bytes behind its length, which nobody may read or write.
func roomy(b []byte) []byte {
	all := append(slices.Clone(b), bytes.Repeat([]byte{0xde, 0xad}, 64)...)
	return all[:len(b)]
}

func behind(t *testing.T, b []byte) {
	t.Helper()
	if got := b[len(b) : len(b)+128]; !bytes.Equal(got, bytes.Repeat([]byte{0xde, 0xad}, 64)) {
		t.Fatalf("written behind the length: %x", got)
	}
}

// padded is what the document says that Blocks tells, end to end.
func padded(b []byte) []byte {
	out := append(slices.Clone(b), 0x80)
	for (len(out)+8)%64 != 0 {
		out = append(out, 0)
	}
	return binary.BigEndian.AppendUint64(out, 8*uint64(len(b)))
}

// joined is what Blocks tells, end to end.
func joined(b []byte) []byte {
	var out []byte
	for block := range Blocks(b) {
		out = append(out, block[:]...)
	}
	return out
}

func fromHex(t *testing.T, s string) api.Id {
	t.Helper()
	b, err := hex.DecodeString(s)
	if err != nil || len(b) != 32 {
		t.Fatal(s, err)
	}
	return api.Id(b)
}

// P2.1

func TestBlocksOfAllLengths(t *testing.T) {
	for n := range 400 {
		b := sample(n)
		if got, want := joined(b), padded(b); !bytes.Equal(got, want) {
			t.Fatalf("Blocks of %d bytes:\n%x\nnot\n%x", n, got, want)
		}
	}
}

func TestBlocksCount(t *testing.T) {
	for n, want := range map[int]int{0: 1, 1: 1, 55: 1, 56: 2, 63: 2, 64: 2, 65: 2, 119: 2, 120: 3, 128: 3, 6400: 101} {
		if got := len(slices.Collect(Blocks(make([]byte, n)))); got != want {
			t.Errorf("Blocks of %d bytes: %d, not %d", n, got, want)
		}
	}
}

func TestBlocksLengthOfSeveralBytes(t *testing.T) {
	last := slices.Collect(Blocks(make([]byte, 1<<21+3)))
	end := last[len(last)-1]
	if got := end[56:]; !bytes.Equal(got, []byte{0, 0, 0, 0, 1, 0, 0, 24}) {
		t.Fatalf("length at the end: %x", got)
	}
}

func TestBlocksOfNone(t *testing.T) {
	want := [64]byte{0: 0x80}
	for _, b := range [][]byte{nil, {}} {
		if got := slices.Collect(Blocks(b)); len(got) != 1 || got[0] != want {
			t.Errorf("Blocks(%#v) = %x", b, got)
		}
	}
}

func TestBlocksLeftAndGoneThroughAgain(t *testing.T) {
	for _, n := range []int{0, 10, 56, 64, 130, 190} {
		b := sample(n)
		told := Blocks(b)
		all := slices.Collect(told)
		for stop := 1; stop <= len(all); stop++ {
			var got [][64]byte
			for block := range told {
				got = append(got, block)
				if len(got) == stop {
					break
				}
			}
			if !slices.Equal(got, all[:stop]) {
				t.Fatalf("%d bytes, left behind %d blocks: %x", n, stop, got)
			}
		}
		if again := slices.Collect(told); !slices.Equal(again, all) {
			t.Fatalf("%d bytes, gone through again: %x", n, again)
		}
	}
}

func TestBlocksGoneThroughWithinItself(t *testing.T) {
	told := Blocks(sample(130))
	all := slices.Collect(told)
	for block := range told {
		if inner := slices.Collect(told); !slices.Equal(inner, all) {
			t.Fatalf("within block %x: %x", block, inner)
		}
	}
}

func TestBlocksSharesNoMemory(t *testing.T) {
	b := roomy(sample(70))
	told := Blocks(b)
	want := padded(b)
	for i := range b {
		b[i] = 0xff
	}
	var got []byte
	for block := range told {
		got = append(got, block[:]...)
	}
	if !bytes.Equal(got, want) {
		t.Fatalf("a change to the argument is told: %x", got)
	}
	behind(t, b)
}

// P2.2

// scheduleByBook is 6.2.2 of FIPS 180-4, written out by the book's own names.
func scheduleByBook(b [64]byte) [64]uint32 {
	rotr := func(x uint32, n int) uint32 { return x>>n | x<<(32-n) }
	sigma0 := func(x uint32) uint32 { return rotr(x, 7) ^ rotr(x, 18) ^ x>>3 }
	sigma1 := func(x uint32) uint32 { return rotr(x, 17) ^ rotr(x, 19) ^ x>>10 }
	var w [64]uint32
	for t := range w {
		if t < 16 {
			w[t] = binary.BigEndian.Uint32(b[4*t:])
		} else {
			w[t] = sigma1(w[t-2]) + w[t-7] + sigma0(w[t-15]) + w[t-16]
		}
	}
	return w
}

func TestScheduleOfAbc(t *testing.T) {
	w := Schedule([64]byte(padded([]byte("abc"))))
	for i, want := range map[int]uint32{0: 0x61626380, 1: 0, 14: 0, 15: 24, 16: 0x61626380, 17: 0x000f0000, 18: 0x7da86405, 19: 0x600003c6, 63: 0x12b1edeb} {
		if w[i] != want {
			t.Errorf("word %d: %08x, not %08x", i, w[i], want)
		}
	}
}

func TestScheduleByBook(t *testing.T) {
	b := sample(64 * 20)
	for p := range slices.Chunk(b, 64) {
		if got, want := Schedule([64]byte(p)), scheduleByBook([64]byte(p)); got != want {
			t.Fatalf("Schedule(%x):\n%08x\nnot\n%08x", p, got, want)
		}
	}
	if got := Schedule([64]byte{}); got != ([64]uint32{}) {
		t.Fatalf("Schedule of noughts: %08x", got)
	}
	full := [64]byte(bytes.Repeat([]byte{0xff}, 64))
	if got, want := Schedule(full), scheduleByBook(full); got != want {
		t.Fatalf("Schedule of ff: %08x, not %08x", got, want)
	}
}

// compressByLibrary sets the library's sum to the words h, gives it one block, and takes its words.
func compressByLibrary(t *testing.T, h [8]uint32, b [64]byte) [8]uint32 {
	t.Helper()
	state := []byte("sha\x03")
	for _, x := range h {
		state = binary.BigEndian.AppendUint32(state, x)
	}
	state = append(state, make([]byte, 64+8)...)
	d := sha256.New()
	if err := d.(encoding.BinaryUnmarshaler).UnmarshalBinary(state); err != nil {
		t.Fatal(err)
	}
	d.Write(b[:])
	state, err := d.(encoding.BinaryMarshaler).MarshalBinary()
	if err != nil {
		t.Fatal(err)
	}
	var out [8]uint32
	for i := range out {
		out[i] = binary.BigEndian.Uint32(state[4+4*i:])
	}
	return out
}

func TestCompressFromAnyWords(t *testing.T) {
	b := sample(96 * 50)
	for p := range slices.Chunk(b, 96) {
		var h [8]uint32
		for i := range h {
			h[i] = bits.ReverseBytes32(binary.BigEndian.Uint32(p[64+4*i:]))
		}
		if got, want := Compress(h, [64]byte(p)), compressByLibrary(t, h, [64]byte(p)); got != want {
			t.Fatalf("Compress(%08x, %x) = %08x, not %08x", h, p[:64], got, want)
		}
	}
}

func TestCompressAtTheEdges(t *testing.T) {
	var ones [8]uint32
	for i := range ones {
		ones[i] = 0xffffffff
	}
	full := [64]byte(bytes.Repeat([]byte{0xff}, 64))
	for _, h := range [][8]uint32{{}, ones, {0: 1}, {7: 1}} {
		for _, b := range [][64]byte{{}, full, {0: 1}, {63: 1}} {
			if got, want := Compress(h, b), compressByLibrary(t, h, b); got != want {
				t.Fatalf("Compress(%08x, %x) = %08x, not %08x", h, b, got, want)
			}
		}
	}
}

func TestCompressOfAbc(t *testing.T) {
	first := [8]uint32{0x6a09e667, 0xbb67ae85, 0x3c6ef372, 0xa54ff53a, 0x510e527f, 0x9b05688c, 0x1f83d9ab, 0x5be0cd19}
	want := [8]uint32{0xba7816bf, 0x8f01cfea, 0x414140de, 0x5dae2223, 0xb00361a3, 0x96177a9c, 0xb410ff61, 0xf20015ad}
	if got := Compress(first, [64]byte(padded([]byte("abc")))); got != want {
		t.Fatalf("%08x", got)
	}
}

// P2.3

func TestSumOfKnownTexts(t *testing.T) {
	cases := []struct{ text, want string }{
		{"", "e3b0c44298fc1c149afbf4c8996fb92427ae41e4649b934ca495991b7852b855"},
		{"abc", "ba7816bf8f01cfea414140de5dae2223b00361a396177a9cb410ff61f20015ad"},
		{"abcdbcdecdefdefgefghfghighijhijkijkljklmklmnlmnomnopnopq", "248d6a61d20638b8e5c026930c3e6039a33ce45964ff2167f6ecedd419db06c1"},
	}
	for _, c := range cases {
		if got := Sum([]byte(c.text)); got != fromHex(t, c.want) {
			t.Errorf("Sum(%q) = %x, not %s", c.text, got, c.want)
		}
	}
}

func TestSumOfAMillionLetters(t *testing.T) {
	if got := Sum(bytes.Repeat([]byte("a"), 1000000)); got != fromHex(t, "cdc76e5c9914fb9281a1c7e284d73e67f1809a48a497200e046d39ccc7112cd0") {
		t.Fatalf("%x", got)
	}
}

func TestSumOfAllLengths(t *testing.T) {
	for n := range 400 {
		b := roomy(sample(n))
		if got := Sum(b); got != api.Id(sha256.Sum256(b)) {
			t.Fatalf("Sum of %d bytes: %x", n, got)
		}
		if !bytes.Equal(b, sample(n)) {
			t.Fatalf("%d bytes: the argument is changed", n)
		}
		behind(t, b)
	}
}

func TestSumOfNone(t *testing.T) {
	if Sum(nil) != Sum([]byte{}) || Sum(nil) != api.Id(sha256.Sum256(nil)) {
		t.Fatalf("%x, %x", Sum(nil), Sum([]byte{}))
	}
}

func TestSumIsCompressOverBlocks(t *testing.T) {
	for _, n := range []int{0, 55, 56, 64, 1000} {
		h := [8]uint32{0x6a09e667, 0xbb67ae85, 0x3c6ef372, 0xa54ff53a, 0x510e527f, 0x9b05688c, 0x1f83d9ab, 0x5be0cd19}
		for block := range Blocks(sample(n)) {
			h = Compress(h, block)
		}
		var want []byte
		for _, x := range h {
			want = binary.BigEndian.AppendUint32(want, x)
		}
		if got := Sum(sample(n)); got != api.Id(want) {
			t.Errorf("%d bytes: %x, not %x", n, got, want)
		}
	}
}

// P2.4

func TestRunningOfNothing(t *testing.T) {
	r := Begin()
	if r == nil {
		t.Fatal("nil")
	}
	want := Sum(nil)
	if r.Sum() != want {
		t.Fatalf("%x", r.Sum())
	}
	r.More(nil)
	r.More([]byte{})
	if r.Sum() != want {
		t.Fatalf("behind pieces of nothing: %x", r.Sum())
	}
}

func TestRunningGoesOn(t *testing.T) {
	text := sample(300)
	r := Begin()
	for i := range text {
		r.More(text[i : i+1])
		want := api.Id(sha256.Sum256(text[:i+1]))
		if r.Sum() != want || r.Sum() != want {
			t.Fatalf("behind %d bytes: %x, not %x", i+1, r.Sum(), want)
		}
	}
}

func TestRunningsAreApart(t *testing.T) {
	one, other := Begin(), Begin()
	one.More([]byte("a"))
	other.More([]byte("abc"))
	one.More([]byte("b"))
	if one.Sum() != Sum([]byte("ab")) || other.Sum() != Sum([]byte("abc")) {
		t.Fatal("two Runnings share what they keep")
	}
}

func TestRunningCopiedGoesOnByItself(t *testing.T) {
	one := Begin()
	one.More(sample(70))
	other := *one
	one.More([]byte("one"))
	other.More([]byte("other"))
	if one.Sum() != Sum(append(sample(70), "one"...)) || other.Sum() != Sum(append(sample(70), "other"...)) {
		t.Fatal("a copy shares what it keeps")
	}
}

func TestRunningSharesNoMemory(t *testing.T) {
	b := roomy([]byte("abc"))
	r := Begin()
	r.More(b)
	behind(t, b)
	if string(b) != "abc" {
		t.Fatalf("the argument is changed: %q", b)
	}
	copy(b, "xyz")
	if r.Sum() != Sum([]byte("abc")) {
		t.Fatal("a change to the argument is seen")
	}
}

func TestRunningThatNobodyMade(t *testing.T) {
	var none *Running
	var zero Running
	for _, r := range []*Running{none, &zero, new(Running)} {
		if r.Sum() != (api.Id{}) {
			t.Fatalf("%x", r.Sum())
		}
		r.More(nil)
		r.More([]byte("abc"))
		r.More(sample(200))
		if r.Sum() != (api.Id{}) {
			t.Fatalf("behind More: %x", r.Sum())
		}
	}
}

// P2.5

func TestPiecesInTwo(t *testing.T) {
	text := sample(200)
	want := Sum(text)
	for cut := range len(text) + 1 {
		r := Begin()
		r.More(text[:cut])
		r.More(text[cut:])
		if r.Sum() != want {
			t.Fatalf("cut at %d: %x, not %x", cut, r.Sum(), want)
		}
	}
}

func TestPiecesInThreeAroundBlocks(t *testing.T) {
	text := sample(260)
	want := Sum(text)
	edges := []int{0, 1, 55, 56, 57, 63, 64, 65, 119, 120, 127, 128, 129, 192, 256, 260}
	for i, from := range edges {
		for _, to := range edges[i:] {
			r := Begin()
			r.More(text[:from])
			r.More(text[from:to])
			r.More(text[to:])
			if r.Sum() != want {
				t.Fatalf("cut at %d and %d: %x, not %x", from, to, r.Sum(), want)
			}
		}
	}
}

func TestPiecesOfOneSize(t *testing.T) {
	for _, n := range []int{0, 1, 63, 64, 65, 1000} {
		text := sample(n)
		for size := 1; size <= 150; size++ {
			r := Begin()
			for p := range slices.Chunk(text, size) {
				r.More(p)
				r.More(nil)
			}
			if r.Sum() != Sum(text) {
				t.Fatalf("%d bytes in pieces of %d: %x", n, size, r.Sum())
			}
		}
	}
}
