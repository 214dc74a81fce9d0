package mac

import (
	"bytes"
	"crypto/hkdf"
	"crypto/hmac"
	"crypto/sha256"
	"encoding/hex"
	"math"
	"slices"
	"testing"

	"tabularium/api"
)

// sample is n bytes without a short period, so that a byte at a wrong place shows.
func sample(n int) []byte {
	out := make([]byte, n)
	x := uint32(1)
	for i := range out {
		x = x*1664525 + 1013904223
		out[i] = byte(x >> 24)
	}
	return out
}

// roomy is b with other bytes behind its length, which nobody may read or write.
func roomy(b []byte) []byte {
	all := append(slices.Clone(b), bytes.Repeat([]byte{0xde, 0xad}, 64)...)
	return all[:len(b)]
}

// untouched fails if b, made by roomy of was, has changed or was written behind.
func untouched(t *testing.T, b, was []byte) {
	t.Helper()
	if !bytes.Equal(b, was) {
		t.Fatalf("an argument was changed: %x", b)
	}
	if got := b[len(b) : len(b)+128]; !bytes.Equal(got, bytes.Repeat([]byte{0xde, 0xad}, 64)) {
		t.Fatalf("written behind the length: %x", got)
	}
}

func fromHex(t *testing.T, s string) []byte {
	t.Helper()
	b, err := hex.DecodeString(s)
	if err != nil {
		t.Fatal(err)
	}
	return b
}

// library is Go's own HMAC-SHA-256.
func library(key, b []byte) []byte {
	h := hmac.New(sha256.New, key)
	h.Write(b)
	return h.Sum(nil)
}

// expanded is Expand, where it must be OK.
func expanded(t *testing.T, key api.Key, info []byte, n int) []byte {
	t.Helper()
	b, e := Expand(key, info, n)
	if e != api.OK || len(b) != n {
		t.Fatalf("Expand to %d: %d bytes, error %d", n, len(b), e)
	}
	return b
}

// P3.1: the values of RFC 4231, the document's example among them.
func TestSumPublished(t *testing.T) {
	for _, c := range []struct {
		key, text []byte
		want      string
	}{
		{bytes.Repeat([]byte{0x0b}, 20), []byte("Hi There"),
			"b0344c61d8db38535ca8afceaf0bf12b881dc200c9833da726e9376c2e32cff7"},
		{[]byte("Jefe"), []byte("what do ya want for nothing?"),
			"5bdcc146bf60754e6a042426089575c75a003f089d2739839dec58b964ec3843"},
		{bytes.Repeat([]byte{0xaa}, 20), bytes.Repeat([]byte{0xdd}, 50),
			"773ea91e36800e46854db8ebd09181a72959098b3ef8c122d9635514ced565fe"},
		{bytes.Repeat([]byte{0xaa}, 131), []byte("Test Using Larger Than Block-Size Key - Hash Key First"),
			"60e431591ee0b67f0d8a26aacbf5b77f8e0bc6213728c5140546040f0ee37f54"},
		{bytes.Repeat([]byte{0xaa}, 131), []byte("This is a test using a larger than block-size key and a larger than block-size data. The key needs to be hashed before being used by the HMAC algorithm."),
			"9b09ffa71b942fcb27635fbcd5b0e944bfdc63644f0713938a7f51535c3a35e2"},
	} {
		if n := Sum(c.key, c.text); !bytes.Equal(n[:], fromHex(t, c.want)) {
			t.Errorf("Sum of %q: %x, not %s", c.text, n, c.want)
		}
	}
}

// P3.1: every key's length about the block's, at texts of lengths about a block's.
func TestSumLengths(t *testing.T) {
	all := sample(400)
	for k := 0; k <= 200; k++ {
		for _, n := range []int{0, 1, 31, 55, 56, 63, 64, 65, 128, 200} {
			key, text := all[:k], all[400-n:]
			if got, want := Sum(key, text), library(key, text); !bytes.Equal(got[:], want) {
				t.Fatalf("key of %d, text of %d: %x, not %x", k, n, got, want)
			}
		}
	}
}

// P3.1: a key of 64 bytes stands as it is, one of 65 by its sum; a shorter one with bytes 0 behind it.
func TestSumKeyEdges(t *testing.T) {
	all := sample(65)
	short := sha256.Sum256(all)
	if Sum(all, []byte("x")) != Sum(short[:], []byte("x")) {
		t.Error("a key of 65 bytes isn't its sum")
	}
	short = sha256.Sum256(all[:64])
	if Sum(all[:64], []byte("x")) == Sum(short[:], []byte("x")) {
		t.Error("a key of 64 bytes is its sum")
	}
	if Sum([]byte{1, 2}, []byte("x")) != Sum([]byte{1, 2, 0, 0}, []byte("x")) {
		t.Error("a key isn't filled up with bytes 0")
	}
}

// P3.1: however a text is parted, its Sum is the same.
func TestSumParts(t *testing.T) {
	key, text := sample(40), sample(150)
	want := Sum(key, text)
	for i := range text {
		for _, j := range []int{i, (i + len(text)) / 2, len(text)} {
			if Sum(key, text[:i], text[i:j], nil, text[j:], []byte{}) != want {
				t.Fatalf("parted at %d and %d it is another", i, j)
			}
		}
	}
	if Sum(key, []byte("a"), []byte("b")) == Sum(key, []byte("b"), []byte("a")) {
		t.Error("the parts' order doesn't tell")
	}
}

// P3.1, P3: no parts, no key.
func TestSumOfNothing(t *testing.T) {
	want := api.Id(fromHex(t, "b613679a0814d9ec772f95d778c35fc5ff1697c493715653c6c712144292c5ad"))
	for i, got := range []api.Id{Sum(nil), Sum([]byte{}), Sum(nil, nil), Sum([]byte{}, []byte{}, nil), Sum(make([]byte, 64))} {
		if got != want {
			t.Errorf("nothing, way %d: %x", i, got)
		}
	}
}

// P2, P3: nothing that is given is changed, and nothing behind it is read.
func TestArgumentsStay(t *testing.T) {
	for _, n := range []int{0, 1, 32, 63, 64, 65, 100} {
		was := sample(n)
		key, a, b := roomy(was), roomy(was), roomy(was)
		tag := library(was, append(slices.Clone(was), was...))
		if got := Sum(key, a, b); !bytes.Equal(got[:], tag) {
			t.Fatalf("Sum of %d bytes with others behind them: %x", n, got)
		}
		info := roomy(was)
		if !bytes.Equal(expanded(t, api.Key{9}, info, 70), expanded(t, api.Key{9}, was, 70)) {
			t.Fatalf("what lies behind info tells, at %d", n)
		}
		if Extract(key, a) != Extract(was, was) {
			t.Fatalf("what lies behind salt or in tells, at %d", n)
		}
		right := library(was, was)
		mark := roomy(right)
		if !Check(key, a, mark) {
			t.Fatalf("what lies behind a tag tells, at %d", n)
		}
		untouched(t, mark, right)
		for _, x := range [][]byte{key, a, b, info} {
			untouched(t, x, was)
		}
	}
}

// P3.2: all bytes of a tag, and as many.
func TestCheck(t *testing.T) {
	key, b := sample(20), []byte("Hi There")
	tag := library(key, b)
	if !Check(key, b, tag) {
		t.Fatal("the right tag is refused")
	}
	for bit := range 8 * len(tag) {
		wrong := slices.Clone(tag)
		wrong[bit/8] ^= 1 << (bit % 8)
		if Check(key, b, wrong) {
			t.Fatalf("a tag with bit %d turned is taken", bit)
		}
	}
	for n := range len(tag) {
		if Check(key, b, tag[:n]) {
			t.Fatalf("the first %d bytes of a tag are taken", n)
		}
	}
	if Check(key, b, append(slices.Clone(tag), 0)) || Check(key, b, append(slices.Clone(tag), tag...)) {
		t.Error("a tag with more behind it is taken")
	}
	if Check(key, b, nil) || Check(nil, nil, nil) || Check(key, b, make([]byte, 32)) {
		t.Error("a tag of nothing is taken")
	}
	if Check(sample(21), b, tag) || Check(key, []byte("hi There"), tag) || Check(key, nil, tag) {
		t.Error("the tag of another key or text is taken")
	}
	if !Check(nil, nil, library(nil, nil)) {
		t.Error("the tag of nothing is refused")
	}
}

// P3.3: the values of RFC 5869.
func TestExpandPublished(t *testing.T) {
	run := func(from, to int) []byte {
		var out []byte
		for i := from; i < to; i++ {
			out = append(out, byte(i))
		}
		return out
	}
	for i, c := range []struct {
		in, salt, info []byte
		drawn, want    string
	}{
		{bytes.Repeat([]byte{0x0b}, 22), run(0, 0x0d), run(0xf0, 0xfa),
			"077709362c2e32df0ddc3f0dc47bba6390b6c73bb50f9c3122ec844ad7c2b3e5",
			"3cb25f25faacd57a90434f64d0362f2a2d2d0a90cf1a5a4c5db02d56ecc4c5bf34007208d5b887185865"},
		{run(0, 0x50), run(0x60, 0xb0), run(0xb0, 0x100),
			"06a6b88c5853361a06104c9ceb35b45cef760014904671014a193f40c15fc244",
			"b11e398dc80327a1c8e7f78c596a49344f012eda2d4efad8a050cc4c19afa97c59045a99cac7827271cb41c65e590e09da3275600c2f09b8367793a9aca3db71cc30c58179ec3e87c14c01d5c1f3434f1d87"},
		{bytes.Repeat([]byte{0x0b}, 22), nil, nil,
			"19ef24a32c717b167f33a91d6f648bdf96596776afdb6377ac434c1c293ccb04",
			"8da4e775a563c18f715f802a063c5a31b8a11f5c5ee1879ec3454e5f3c738d2d9d201395faa4b61a96c8"},
	} {
		key := Extract(c.salt, c.in)
		if !bytes.Equal(key[:], fromHex(t, c.drawn)) {
			t.Errorf("Extract %d: %x", i, key)
		}
		want := fromHex(t, c.want)
		if got := expanded(t, key, c.info, len(want)); !bytes.Equal(got, want) {
			t.Errorf("Expand %d: %x", i, got)
		}
	}
}

// P3.3: the key of Extract is the salt, its text what is drawn from.
func TestExtract(t *testing.T) {
	for _, n := range []int{0, 1, 64, 65, 200} {
		salt, in := sample(n), sample(n + 3)[3:]
		if got, want := Extract(salt, in), library(salt, in); !bytes.Equal(got[:], want) {
			t.Errorf("Extract of %d bytes: %x, not %x", n, got, want)
		}
	}
	if Extract(nil, nil) != api.Key(Sum(nil)) || Extract([]byte{}, nil) != Extract(nil, []byte{}) {
		t.Error("Extract of nothing")
	}
	if Extract([]byte("a"), []byte("b")) == Extract([]byte("b"), []byte("a")) {
		t.Error("salt and text are one to Extract")
	}
}

// P3.3: against Go's own, up to the last byte that a chain has.
func TestExpandLengths(t *testing.T) {
	key := api.Key(sample(32))
	for _, info := range []string{"", "x", string(sample(100))} {
		for _, n := range []int{0, 1, 31, 32, 33, 63, 64, 65, 96, 1000, 8128, 8129, 8159, 8160} {
			want, err := hkdf.Expand(sha256.New, key[:], info, n)
			if err != nil {
				t.Fatal(err)
			}
			if got := expanded(t, key, []byte(info), n); !bytes.Equal(got, want) {
				t.Fatalf("Expand to %d by %q is another", n, info)
			}
		}
	}
}

// P3.3: lengths that may not be; P4: with nothing beside the error.
func TestExpandRange(t *testing.T) {
	for _, n := range []int{-1, -32, math.MinInt, 8161, 8192, 1 << 16, 1<<32 + 1, math.MaxInt} {
		if b, e := Expand(api.Key{1}, []byte("x"), n); e != api.ErrRange || b != nil {
			t.Errorf("Expand to %d: %d bytes, error %d", n, len(b), e)
		}
	}
	if b, e := Expand(api.Key{}, nil, 0); e != api.OK || len(b) != 0 {
		t.Errorf("Expand to 0: %d bytes, error %d", len(b), e)
	}
	if !bytes.Equal(expanded(t, api.Key{}, nil, 40), expanded(t, api.Key{}, []byte{}, 40)) {
		t.Error("no info and an empty one are two things")
	}
}

// P3.3: key and info tell.
func TestExpandHangsOnAll(t *testing.T) {
	key := api.Key(sample(32))
	a := expanded(t, key, []byte("a"), 64)
	if bytes.Equal(a, expanded(t, key, []byte("b"), 64)) || bytes.Equal(a, expanded(t, api.Key{}, []byte("a"), 64)) {
		t.Error("another key or info has the same chain")
	}
	if bytes.Equal(a[:32], a[32:]) {
		t.Error("two links are the same")
	}
}

// P3.4: a shorter one is the beginning of a longer one, at all lengths.
func TestExpandBegins(t *testing.T) {
	key, info := api.Key(sample(32)), []byte("info")
	long := expanded(t, key, info, 8160)
	for n := 0; n <= 8160; n += 1 + n/40 {
		if !bytes.Equal(expanded(t, key, info, n), long[:n]) {
			t.Fatalf("Expand to %d isn't a beginning", n)
		}
	}
}

// P2: what is answered is the caller's own, and has nothing behind its length.
func TestExpandAnswersOwnMemory(t *testing.T) {
	info := []byte("info")
	for _, n := range []int{0, 1, 33, 100} {
		a, b := expanded(t, api.Key{7}, info, n), expanded(t, api.Key{7}, info, n)
		clear(a)
		if !bytes.Equal(b, expanded(t, api.Key{7}, info, n)) {
			t.Fatal("two answers share memory")
		}
		if cap(b) != n {
			t.Fatalf("%d bytes are handed out behind the length", cap(b)-n)
		}
	}
	if string(info) != "info" {
		t.Fatal("info was changed")
	}
}

// The chain may be left at any time, and gone through again (P5).
func TestChainAgain(t *testing.T) {
	links := chain(api.Key{3}, []byte("x"))
	all := slices.Collect(links)
	if len(all) != 255 {
		t.Fatalf("a chain of %d links", len(all))
	}
	for _, stop := range []int{1, 2, 254} {
		var some []api.Id
		for link := range links {
			some = append(some, link)
			if len(some) == stop {
				break
			}
		}
		if !slices.Equal(some, all[:stop]) {
			t.Fatalf("another chain, left behind %d", stop)
		}
	}
	if !slices.Equal(slices.Collect(links), all) {
		t.Fatal("another chain, gone through again")
	}
}
