package suite

import (
	"bytes"
	"crypto/sha256"
	"encoding/binary"
	"math"
	"slices"
	"testing"

	"tabularium/api"
	"tabularium/chacha"
)

// plainBucket is the document's sentence of pad, at any n that doesn't go round.
func plainBucket(n int) int {
	if n < 0 || n > 65532 {
		return 0
	}
	for size := 32; ; size *= 2 {
		if size >= n+4 {
			return size
		}
	}
}

// plainPut is a text's padded form, written out by other means.
func plainPut(b []byte) []byte {
	out := binary.LittleEndian.AppendUint32(nil, uint32(len(b)))
	out = append(out, b...)
	return append(out, make([]byte, plainBucket(len(b))-len(out))...)
}

// plainLength is ad's length as it is summed.
func plainLength(ad []byte) []byte {
	return binary.LittleEndian.AppendUint64(nil, uint64(len(ad)))
}

// plainNonce is the nonce of a padded text, by other means.
func plainNonce(k api.Key, ad, padded []byte) [12]byte {
	return [12]byte(plainSum(k[:], []byte("n"), plainLength(ad), ad, padded))
}

// forged is a padded text, which needn't be one, with any nonce, tagged as it should be: whoever has k can make it.
func forged(k api.Key, ad []byte, nonce [12]byte, padded []byte) []byte {
	c := chacha.Stream(api.Key(plainSum(k[:], []byte("e"))), 1, nonce, padded)
	tag := plainSum(plainSum(k[:], []byte("m")), plainLength(ad), ad, nonce[:], c)
	return slices.Concat(nonce[:], c, tag)
}

// plainSeal is a real Seal, by other means.
func plainSeal(k api.Key, ad, plain []byte) []byte {
	padded := plainPut(plain)
	return forged(k, ad, plainNonce(k, ad, padded), padded)
}

// mustSeal is a Seal that is answered.
func mustSeal(t *testing.T, s *Suite, k api.Key, ad, plain []byte) []byte {
	t.Helper()
	ct, e := s.Seal(k, ad, plain)
	if e != api.OK {
		t.Fatalf("Seal of %d bytes: error %d", len(plain), e)
	}
	return ct
}

// P7.4: by the document's sentence, around every bucket's ends, in both modes.
func TestSize(t *testing.T) {
	for _, mode := range bothModes {
		s := New(mode, nil)
		if s.Size(3) != 76 {
			t.Fatal(s.Size(3))
		}
		for n := 0; n <= 65532; n++ {
			if got := s.Size(n); got != 12+32+plainBucket(n) {
				t.Fatalf("Size(%d): %d", n, got)
			}
		}
		for _, n := range []int{-1, -4, -44, 65533, 65536, 1 << 20, math.MaxInt32, math.MaxInt, math.MaxInt - 4, math.MinInt, math.MinInt + 4} {
			if got := s.Size(n); got != 0 {
				t.Fatalf("Size(%d): %d", n, got)
			}
		}
	}
}

// P7.4: as another program seals.
func TestRealSealVectors(t *testing.T) {
	k, s := risingKey(), New(api.Real, nil)
	wantText(t, unhex(t, "6e9c64ef8ef41c65774489734dac99b90b66908a0ace937e9d08c2a2fc9fbf08910413dc48c2676d42b2f1ef2ee15a0ae771ff61c6ddb4e89419cff5e03754d99477efefe094ebdf6866fe04"))(
		s.Seal(k, []byte("ad"), []byte("text")))
	wantText(t, unhex(t, "120fd179cd2f1beeb54763f6d83753ffcc949e8bae7d5cefbea1e28600939507d6657b3e3213bd0ba759faa5dee3eaabbdf203e0dad947a58e5da113bbbb7bf4d6ac10f21f5587f677567007"))(
		s.Seal(k, nil, nil))
	ad, plain := make([]byte, 300), make([]byte, 300)
	for i := range ad {
		ad[i], plain[i] = byte(i), byte(3*i)
	}
	long := sha256.Sum256(mustSeal(t, s, k, ad, plain))
	if !bytes.Equal(long[:], unhex(t, "1f444ad0f0c9b3c3d0307cd595edfc620bf231bb36949e015dca87e338c8027b")) {
		t.Fatalf("%x", long)
	}
	longest := sha256.Sum256(mustSeal(t, s, k, []byte("x"), bytes.Repeat([]byte{7}, 65532)))
	if !bytes.Equal(longest[:], unhex(t, "ff4d6de804626903b7619898afdc1ca9f8b6b5d1b882da928f7d382c505e6f6c")) {
		t.Fatalf("%x", longest)
	}
}

// textLengths are lengths of texts at the buckets' ends, and others.
var textLengths = []int{0, 1, 4, 27, 28, 29, 32, 59, 60, 61, 64, 65, 124, 125, 1000, 4092, 4093, 32764, 32765, 65531, 65532}

// P7.4, P7.5, P7.7: by the document's sentence, and back.
func TestRealSealAndOpen(t *testing.T) {
	s := New(api.Real, nil)
	for _, k := range []api.Key{{}, {1}, risingKey()} {
		for _, n := range textLengths {
			plain := sample(n)
			for _, ad := range [][]byte{nil, {0}, []byte("ad"), sample(300)} {
				ct := plainSeal(k, ad, plain)
				for range 2 {
					wantText(t, ct)(s.Seal(k, ad, plain))
				}
				if len(ct) != s.Size(n) {
					t.Fatalf("%d bytes of a text of %d", len(ct), n)
				}
				for range 2 {
					wantText(t, plain)(s.Open(k, ad, ct))
				}
			}
		}
	}
	long := sample(200000)
	wantText(t, []byte("text"))(s.Open(risingKey(), long, mustSeal(t, s, risingKey(), long, []byte("text"))))
}

// P7.5: a real suite that never sealed the text opens it, too.
func TestRealOpenNeedsTheKeyAlone(t *testing.T) {
	a, b := New(api.Real, nil), New(api.Real, nil)
	k := risingKey()
	wantText(t, []byte("text"))(b.Open(k, []byte("ad"), mustSeal(t, a, k, []byte("ad"), []byte("text"))))
}

// P7.4: one byte too many, in both modes, draws or not; nothing is drawn.
func TestSealOfALongText(t *testing.T) {
	for _, mode := range bothModes {
		for _, draws := range [][]byte{nil, sample(200000)} {
			s, x := drawing(mode, draws)
			for _, n := range []int{65533, 65536, 100000} {
				wantNoText(t, api.ErrLong)(s.Seal(api.Key{1}, nil, make([]byte, n)))
			}
			wantLeft(t, x, len(draws))
		}
	}
}

// P7.5: any other key, ad, or text that is sealed.
func TestRealOpenOfAnythingElse(t *testing.T) {
	s, k, ad := New(api.Real, nil), risingKey(), []byte("ad")
	for _, n := range []int{0, 4, 28, 29, 100} {
		ct := mustSeal(t, s, k, ad, sample(n))
		for i := range 8 * len(ct) {
			wrong := slices.Clone(ct)
			wrong[i/8] ^= 1 << (i % 8)
			wantNoText(t, api.ErrAuth)(s.Open(k, ad, wrong))
		}
		for i := range 8 * len(k) {
			wrong := k
			wrong[i/8] ^= 1 << (i % 8)
			wantNoText(t, api.ErrAuth)(s.Open(wrong, ad, ct))
		}
		for _, wrong := range []string{"", "a", "AD", "ac", "ad\x00", "add", "\x00ad", string(sample(300))} {
			wantNoText(t, api.ErrAuth)(s.Open(k, []byte(wrong), ct))
		}
		for cut := range ct {
			wantNoText(t, api.ErrAuth)(s.Open(k, ad, ct[:cut]))
			wantNoText(t, api.ErrAuth)(s.Open(k, ad, ct[cut+1:]))
		}
		for more := 1; more < 200; more++ {
			wantNoText(t, api.ErrAuth)(s.Open(k, ad, slices.Concat(ct, make([]byte, more))))
		}
		wantText(t, sample(n))(s.Open(k, ad, ct))
	}
}

// P7.5: lengths that no Seal has, tagged as they should be.
func TestRealOpenOfForgedLengths(t *testing.T) {
	s, k := New(api.Real, nil), risingKey()
	for _, n := range []int{0, 1, 4, 5, 16, 31, 33, 63, 65, 96, 127, 129, 65535, 65537, 131072} {
		padded := make([]byte, n)
		if n > 4 {
			padded[0] = 1
		}
		wantNoText(t, api.ErrAuth)(s.Open(k, nil, forged(k, nil, plainNonce(k, nil, padded), padded)))
	}
	for n := range 44 {
		wantNoText(t, api.ErrAuth)(s.Open(k, nil, make([]byte, n)))
	}
}

// P7.5: what is no padded text, tagged as it should be.
func TestRealOpenOfForgedPads(t *testing.T) {
	s, k, ad := New(api.Real, nil), risingKey(), []byte("ad")
	right := plainPut([]byte("text"))
	for _, wrong := range [][]byte{
		append(slices.Clone(right[:31]), 1),                    // something behind the text
		append([]byte{29, 0, 0, 0}, make([]byte, 28)...),       // a longer text than there is room
		append([]byte{255, 255, 255, 255}, right[4:]...),       // far longer
		append([]byte{4, 0, 0, 0x80}, right[4:]...),            // beyond what a signed number holds
		append(slices.Clone(right), make([]byte, 32)...),       // a greater bucket than need be
		append(slices.Clone(right), make([]byte, 65536-32)...), // the greatest
	} {
		ct := forged(k, ad, plainNonce(k, ad, wrong), wrong)
		wantNoText(t, api.ErrAuth)(s.Open(k, ad, ct))
	}
	wantText(t, []byte("text"))(s.Open(k, ad, forged(k, ad, plainNonce(k, ad, right), right)))
}

// P7.5: a right text and tag with a nonce that Seal doesn't choose.
func TestRealOpenOfForgedNonces(t *testing.T) {
	s, k, ad := New(api.Real, nil), risingKey(), []byte("ad")
	padded := plainPut([]byte("text"))
	right := plainNonce(k, ad, padded)
	for i := range right {
		wrong := right
		wrong[i] ^= 0x10
		wantNoText(t, api.ErrAuth)(s.Open(k, ad, forged(k, ad, wrong, padded)))
	}
	wantNoText(t, api.ErrAuth)(s.Open(k, ad, forged(k, ad, plainNonce(k, nil, padded), padded)))
	wantText(t, []byte("text"))(s.Open(k, ad, forged(k, ad, right, padded)))
}

// P7.6: a Seal with a mark; the vector was made by another program.
func TestWrapIsASeal(t *testing.T) {
	var kek api.Key
	for i := range kek {
		kek[i] = 0xff
	}
	k := risingKey()
	want := unhex(t, "a6afcbefc46291102cada4b6d0cf356059a553fc133c7a63dd25d6cf233a2b7a145350e381fd249af9f0244d7145276073d6af03f38ff4ac12615fc63b2890c49b1473d26ceb3ce27e985c88effdec28de5e7a0eeb652d7d94b971f2fba1a4a5fc1a2e346a629bd026fad83f")
	wantText(t, want)(New(api.Real, nil).Wrap(kek, k))
	for _, mode := range bothModes {
		s, _ := drawing(mode, sample(1000))
		ct, e := s.Wrap(kek, k)
		wantText(t, ct)(s.Seal(kek, []byte("wrap"), k[:]))
		if e != api.OK || len(ct) != 108 {
			t.Fatal(len(ct), e)
		}
		wantText(t, k[:])(s.Open(kek, []byte("wrap"), ct))
		wantKey(t, k[:])(s.Unwrap(kek, ct))
		wantKey(t, k[:])(s.Unwrap(kek, mustSeal(t, s, kek, []byte("wrap"), k[:])))
	}
}

// P7.6: Open's error, whatever is wrong.
func TestUnwrapOfAnythingElse(t *testing.T) {
	kek, k := risingKey(), api.Key{2}
	for _, mode := range bothModes {
		s, _ := drawing(mode, sample(1000))
		ct, e := s.Wrap(kek, k)
		if e != api.OK {
			t.Fatal(e)
		}
		wantNoKey(t, api.ErrAuth)(s.Unwrap(api.Key{}, ct))
		wantNoKey(t, api.ErrAuth)(s.Unwrap(k, ct))
		wantNoKey(t, api.ErrAuth)(s.Unwrap(kek, nil))
		wantNoKey(t, api.ErrAuth)(s.Unwrap(kek, ct[:107]))
		wantNoKey(t, api.ErrAuth)(s.Unwrap(kek, append(slices.Clone(ct), 0)))
		for i := range ct {
			wrong := slices.Clone(ct)
			wrong[i] ^= 0x80
			wantNoKey(t, api.ErrAuth)(s.Unwrap(kek, wrong))
		}
		other := mustSeal(t, s, kek, []byte("Wrap"), k[:])
		wantNoKey(t, api.ErrAuth)(s.Unwrap(kek, other))
		wantNoText(t, api.ErrAuth)(s.Open(kek, nil, ct))
		wantKey(t, k[:])(s.Unwrap(kek, ct))
	}
}

// P7.6: what was sealed with the mark and isn't as long as a key.
func TestUnwrapOfTextsOfOtherLengths(t *testing.T) {
	kek := risingKey()
	for _, mode := range bothModes {
		s, _ := drawing(mode, sample(100000))
		for _, n := range []int{0, 1, 28, 29, 31, 33, 60, 64, 1000} {
			ct := mustSeal(t, s, kek, []byte("wrap"), sample(n))
			wantNoKey(t, api.ErrAuth)(s.Unwrap(kek, ct))
			wantText(t, sample(n))(s.Open(kek, []byte("wrap"), ct))
		}
	}
}

// P7.6: draws are too few.
func TestWrapWithoutDraws(t *testing.T) {
	s, x := drawing(api.Ideal, sample(107))
	wantNoText(t, api.ErrEntropy)(s.Wrap(api.Key{1}, api.Key{2}))
	wantLeft(t, x, 107)
}
