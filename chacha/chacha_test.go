package chacha

import (
	"bytes"
	"encoding/binary"
	"encoding/hex"
	"math"
	"math/bits"
	"slices"
	"testing"

	"tabularium/api"
)

// sample is n bytes without a short period, so that a byte at a wrong place shows.
func sample(n int) []byte {
	out := make([]byte, n)
	x := uint32(1)
	for i := range out {
		x = x*1664525 + 1013904223
		out[i] = byte(x >> 24)
	}
	return out
}

// roomy is b with other bytes behind its length, which nobody may read or write.
func roomy(b []byte) []byte {
	all := append(slices.Clone(b), bytes.Repeat([]byte{0xde, 0xad}, 64)...)
	return all[:len(b)]
}

// untouched fails if b, made by roomy of was, has changed or was written behind.
func untouched(t *testing.T, b, was []byte) {
	t.Helper()
	if !bytes.Equal(b, was) {
		t.Fatalf("an argument was changed: %x", b)
	}
	if got := b[len(b) : len(b)+128]; !bytes.Equal(got, bytes.Repeat([]byte{0xde, 0xad}, 64)) {
		t.Fatalf("written behind the length: %x", got)
	}
}

func fromHex(t *testing.T, s string) []byte {
	t.Helper()
	b, err := hex.DecodeString(s)
	if err != nil {
		t.Fatal(err)
	}
	return b
}

// rising is the key 00 01 02 .. 1f of RFC 8439.
func rising() api.Key {
	var k api.Key
	for i := range k {
		k[i] = byte(i)
	}
	return k
}

// plainQuarter is RFC 8439's 2.1, line by line.
func plainQuarter(s *[16]uint32, a, b, c, d int) {
	s[a] += s[b]
	s[d] = bits.RotateLeft32(s[d]^s[a], 16)
	s[c] += s[d]
	s[b] = bits.RotateLeft32(s[b]^s[c], 12)
	s[a] += s[b]
	s[d] = bits.RotateLeft32(s[d]^s[a], 8)
	s[c] += s[d]
	s[b] = bits.RotateLeft32(s[b]^s[c], 7)
}

// plainBlock is RFC 8439's 2.3, line by line, to hold Block against at any input.
func plainBlock(key api.Key, counter uint32, nonce [12]byte) [64]byte {
	var first [16]uint32
	head := append([]byte("expand 32-byte k"), key[:]...)
	head = binary.LittleEndian.AppendUint32(head, counter)
	head = append(head, nonce[:]...)
	for i := range first {
		first[i] = binary.LittleEndian.Uint32(head[4*i:])
	}
	s := first
	for range 10 {
		plainQuarter(&s, 0, 4, 8, 12)
		plainQuarter(&s, 1, 5, 9, 13)
		plainQuarter(&s, 2, 6, 10, 14)
		plainQuarter(&s, 3, 7, 11, 15)
		plainQuarter(&s, 0, 5, 10, 15)
		plainQuarter(&s, 1, 6, 11, 12)
		plainQuarter(&s, 2, 7, 8, 13)
		plainQuarter(&s, 3, 4, 9, 14)
	}
	var out [64]byte
	for i := range s {
		binary.LittleEndian.PutUint32(out[4*i:], s[i]+first[i])
	}
	return out
}

// P4.1: the value of RFC 8439, 2.1.1 (the document's example), and that of 2.2.1.
func TestQuarterPublished(t *testing.T) {
	for _, c := range []struct{ in, want [4]uint32 }{
		{[4]uint32{0x11111111, 0x01020304, 0x9b8d6f43, 0x01234567},
			[4]uint32{0xea2a92f4, 0xcb1cf8ce, 0x4581472e, 0x5881c4bb}},
		{[4]uint32{0x516461b1, 0x2a5f714c, 0x53372767, 0x3d631689},
			[4]uint32{0xbdb886dc, 0xcfacafd2, 0xe46bea80, 0xccc07c79}},
		{[4]uint32{}, [4]uint32{}},
	} {
		var got [4]uint32
		got[0], got[1], got[2], got[3] = Quarter(c.in[0], c.in[1], c.in[2], c.in[3])
		if got != c.want {
			t.Errorf("Quarter of %x: %x, not %x", c.in, got, c.want)
		}
	}
}

// P4.1: words whose sums go round, words with one bit, and others.
func TestQuarterWords(t *testing.T) {
	words := []uint32{0, 1, 0x80000000, 0x7fffffff, math.MaxUint32}
	for _, x := range []int{0, 4, 8} {
		words = append(words, binary.LittleEndian.Uint32(sample(12)[x:]))
	}
	for _, a := range words {
		for _, b := range words {
			for _, c := range words {
				for _, d := range words {
					want := [16]uint32{a, b, c, d}
					plainQuarter(&want, 0, 1, 2, 3)
					var got [16]uint32
					got[0], got[1], got[2], got[3] = Quarter(a, b, c, d)
					if got != want {
						t.Fatalf("Quarter of %x, %x, %x, %x: %x, not %x", a, b, c, d, got[:4], want[:4])
					}
				}
			}
		}
	}
}

// P4.2: the values of RFC 8439, 2.3.2 and its appendix A.1.
func TestBlockPublished(t *testing.T) {
	for i, c := range []struct {
		key     api.Key
		counter uint32
		nonce   [12]byte
		want    string
	}{
		{rising(), 1, [12]byte{3: 9, 7: 0x4a},
			"10f1e7e4d13b5915500fdd1fa32071c4c7d1f4c733c068030422aa9ac3d46c4ed2826446079faa0914c2d705d98b02a2b5129cd1de164eb9cbd083e8a2503c4e"},
		{api.Key{}, 0, [12]byte{},
			"76b8e0ada0f13d90405d6ae55386bd28bdd219b8a08ded1aa836efcc8b770dc7da41597c5157488d7724e03fb8d84a376a43b8f41518a11cc387b669b2ee6586"},
		{api.Key{}, 1, [12]byte{},
			"9f07e7be5551387a98ba977c732d080dcb0f29a048e3656912c6533e32ee7aed29b721769ce64e43d57133b074d839d531ed1f28510afb45ace10a1f4b794d6f"},
		{api.Key{31: 1}, 1, [12]byte{},
			"3aeb5224ecf849929b9d828db1ced4dd832025e8018b8160b82284f3c949aa5a8eca00bbb4a73bdad192b5c42f73f2fd4e273644c8b36125a64addeb006c13a0"},
		{api.Key{1: 0xff}, 2, [12]byte{},
			"72d54dfbf12ec44b362692df94137f328fea8da73990265ec1bbbea1ae9af0ca13b25aa26cb4a648cb9b9d1be65b2c0924a66c54d545ec1b7374f4872e99f096"},
		{api.Key{}, 0, [12]byte{11: 2},
			"c2c64d378cd536374ae204b9ef933fcd1a8b2288b3dfa49672ab765b54ee27c78a970e0e955c14f3a88e741b97c286f75f8fc299e8148362fa198a39531bed6d"},
	} {
		if got := Block(c.key, c.counter, c.nonce); !bytes.Equal(got[:], fromHex(t, c.want)) {
			t.Errorf("Block %d: %x, not %s", i, got, c.want)
		}
	}
}

// P4.2: each byte of the key and of the nonce and each of the counter's stands at its place.
func TestBlockPlaces(t *testing.T) {
	key, nonce := api.Key(sample(32)), [12]byte(sample(44)[32:])
	held := func(k api.Key, c uint32, n [12]byte) {
		t.Helper()
		if got, want := Block(k, c, n), plainBlock(k, c, n); got != want {
			t.Fatalf("Block of %x, %d, %x: %x, not %x", k, c, n, got, want)
		}
	}
	for i := range key {
		var one api.Key
		one[i] = 0x80
		held(one, 0, [12]byte{})
		key[i] ^= 0x5a
		held(key, 7, nonce)
	}
	for i := range nonce {
		var one [12]byte
		one[i] = 0x80
		held(api.Key{}, 0, one)
		nonce[i] ^= 0x5a
		held(key, 7, nonce)
	}
	for i := range 32 {
		held(key, 1<<i, nonce)
		held(key, 1<<i-1, nonce)
	}
	held(key, math.MaxUint32, nonce)
	held(api.Key(bytes.Repeat([]byte{0xff}, 32)), math.MaxUint32, [12]byte(bytes.Repeat([]byte{0xff}, 12)))
}

// some is the first n blocks of a stream, which is left there.
func some(stream func(func([64]byte) bool), n int) [][64]byte {
	var out [][64]byte
	for block := range stream {
		out = append(out, block)
		if len(out) == n {
			break
		}
	}
	return out
}

// P4.3: Block after Block, over the counter's end as well.
func TestKeystream(t *testing.T) {
	key, nonce := api.Key(sample(32)), [12]byte(sample(12))
	for _, counter := range []uint32{0, 1, 255, 1 << 16, 1<<31 - 2, math.MaxUint32 - 2, math.MaxUint32} {
		for i, got := range some(Keystream(key, counter, nonce), 6) {
			if got != plainBlock(key, counter+uint32(i), nonce) {
				t.Fatalf("from %d on, block %d is another", counter, i)
			}
		}
	}
}

// P4.3: it doesn't end by itself.
func TestKeystreamGoesOn(t *testing.T) {
	const far = 70000
	n := 0
	var last [64]byte
	for block := range Keystream(api.Key{1}, math.MaxUint32, [12]byte{}) {
		last = block
		if n++; n == far {
			break
		}
	}
	if n != far || last != plainBlock(api.Key{1}, far-2, [12]byte{}) {
		t.Fatalf("left behind %d blocks, at %x", n, last)
	}
}

// P5: a stream may be left at any time and gone through again, from its counter on; two goings don't meet.
func TestKeystreamAgain(t *testing.T) {
	stream := Keystream(rising(), math.MaxUint32-1, [12]byte{5})
	want := some(stream, 9)
	for _, n := range []int{1, 2, 3, 9, 1, 9} {
		if got := some(stream, n); !slices.Equal(got, want[:n]) {
			t.Fatalf("another stream, left behind %d blocks", n)
		}
	}
	at := 0
	for block := range stream {
		if block != want[at] || !slices.Equal(some(stream, 4), want[:4]) {
			t.Fatalf("gone through within itself, it is another at %d", at)
		}
		if at++; at == len(want) {
			break
		}
	}
}

// P2: what is told is the caller's own: a change to a block isn't told the next time.
func TestKeystreamOwnMemory(t *testing.T) {
	key, nonce := rising(), [12]byte{1}
	stream := Keystream(key, 3, nonce)
	want := some(stream, 2)
	for block := range stream {
		clear(block[:])
		break
	}
	clear(key[:])
	clear(nonce[:])
	if !slices.Equal(some(stream, 2), want) {
		t.Error("a stream was changed from without")
	}
}

// P4.3: the value of RFC 8439, 2.4.2.
func TestStreamPublished(t *testing.T) {
	text := "Ladies and Gentlemen of the class of '99: If I could offer you only one tip for the future, sunscreen would be it."
	want := "6e2e359a2568f98041ba0728dd0d6981e97e7aec1d4360c20a27afccfd9fae0bf91b65c5524733ab8f593dabcd62b3571639d624e65152ab8f530c359f0861d8" +
		"07ca0dbf500d6a6156a38e088a22b65e52bc514d16ccf806818ce91ab77937365af90bbf74a35be6b40b8eedf2785e42874d"
	if got := Stream(rising(), 1, [12]byte{7: 0x4a}, []byte(text)); !bytes.Equal(got, fromHex(t, want)) {
		t.Errorf("%x, not %s", got, want)
	}
}

// P4.3: every length about one, two and three blocks: as many bytes as b has, each against its own of the stream.
func TestStreamLengths(t *testing.T) {
	key, nonce := api.Key(sample(32)), [12]byte(sample(12))
	all := sample(1000)
	for _, counter := range []uint32{0, 9, math.MaxUint32 - 1, math.MaxUint32} {
		var stream []byte
		for i := range uint32(16) {
			block := plainBlock(key, counter+i, nonce)
			stream = append(stream, block[:]...)
		}
		for n := 0; n <= len(all); n += 1 + n/200*60 {
			got := Stream(key, counter, nonce, all[:n])
			if len(got) != n {
				t.Fatalf("%d bytes give %d", n, len(got))
			}
			for i, x := range got {
				if x != all[i]^stream[i] {
					t.Fatalf("of %d bytes from %d on, number %d is another", n, counter, i)
				}
			}
		}
	}
}

// P4.3, P3: nothing, and an empty list.
func TestStreamOfNothing(t *testing.T) {
	for _, b := range [][]byte{nil, {}, sample(9)[:0]} {
		if got := Stream(rising(), math.MaxUint32, [12]byte{}, b); len(got) != 0 {
			t.Errorf("nothing gives %x", got)
		}
	}
}

// P4.4: there and back, at all lengths and over the counter's end.
func TestStreamThereAndBack(t *testing.T) {
	key, nonce := api.Key(sample(32)), [12]byte(sample(12))
	for _, counter := range []uint32{0, 1, math.MaxUint32 - 1, math.MaxUint32} {
		for _, n := range []int{0, 1, 63, 64, 65, 127, 128, 129, 200, 65532} {
			b := sample(n)
			there := Stream(key, counter, nonce, b)
			if n > 8 && bytes.Equal(there, b) {
				t.Fatalf("%d bytes are told as they are", n)
			}
			if back := Stream(key, counter, nonce, there); !bytes.Equal(back, b) {
				t.Fatalf("%d bytes from %d on don't come back", n, counter)
			}
		}
	}
}

// P4.4: another key, counter or nonce doesn't turn it back.
func TestStreamHangsOnAll(t *testing.T) {
	b := sample(200)
	there := Stream(rising(), 5, [12]byte{1}, b)
	other := rising()
	other[31] ^= 0x80
	for i, back := range [][]byte{
		Stream(other, 5, [12]byte{1}, there),
		Stream(rising(), 6, [12]byte{1}, there),
		Stream(rising(), 5, [12]byte{1, 11: 1}, there),
	} {
		if bytes.Equal(back, b) {
			t.Errorf("way %d turns it back as well", i)
		}
	}
}

// P4.4: a part from a multiple of 64 on is turned by a counter that is so much greater, modulo 2^32.
func TestStreamParts(t *testing.T) {
	key, nonce := api.Key(sample(32)), [12]byte(sample(12))
	b := sample(64*7 + 21)
	for _, counter := range []uint32{0, 3, math.MaxUint32 - 3, math.MaxUint32} {
		whole := Stream(key, counter, nonce, b)
		for block := 0; 64*block <= len(b); block++ {
			for _, end := range []int{64 * block, min(64*block+1, len(b)), min(64*block+64, len(b)), len(b)} {
				part := Stream(key, counter+uint32(block), nonce, b[64*block:end])
				if !bytes.Equal(part, whole[64*block:end]) {
					t.Fatalf("from %d on, the part from block %d to %d is another", counter, block, end)
				}
			}
		}
	}
}

// P2, P3: nothing that is given is changed, and nothing behind it is read or written.
func TestStreamArgumentStays(t *testing.T) {
	for _, n := range []int{0, 1, 63, 64, 65, 128, 150} {
		was := sample(n)
		b := roomy(was)
		if !bytes.Equal(Stream(rising(), 1, [12]byte{}, b), Stream(rising(), 1, [12]byte{}, was)) {
			t.Fatalf("what lies behind %d bytes tells", n)
		}
		untouched(t, b, was)
	}
}

// P2: what is answered is the caller's own, and has nothing behind its length.
func TestStreamAnswersOwnMemory(t *testing.T) {
	for _, n := range []int{0, 1, 64, 65, 150} {
		b := sample(n)
		x, y := Stream(rising(), 1, [12]byte{}, b), Stream(rising(), 1, [12]byte{}, b)
		clear(x)
		if !bytes.Equal(b, sample(n)) || !bytes.Equal(y, Stream(rising(), 1, [12]byte{}, b)) {
			t.Fatal("an answer shares memory")
		}
		if cap(y) != n {
			t.Fatalf("%d bytes are handed out behind the length", cap(y)-n)
		}
	}
}
