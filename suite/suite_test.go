package suite

import (
	"bytes"
	"crypto/hmac"
	"crypto/sha256"
	"encoding/hex"
	"math"
	"slices"
	"testing"

	"tabularium/api"
	"tabularium/tape"
)

var bothModes = []int{api.Real, api.Ideal}

// sample is n bytes without a short period, so that a byte at a wrong place shows.
func sample(n int) []byte {
	out := make([]byte, n)
	x := uint32(1)
	for i := range out {
		x = x*1664525 + 1013904223
		out[i] = byte(x >> 24)
	}
	return out
}

// roomy is b with other bytes behind its length, which nobody may read or write.
func roomy(b []byte) []byte {
	all := append(slices.Clone(b), bytes.Repeat([]byte{0xde, 0xad}, 64)...)
	return all[:len(b)]
}

// untouched fails if b, made by roomy of was, has changed or was written behind.
func untouched(t *testing.T, b, was []byte) {
	t.Helper()
	if !bytes.Equal(b, was) {
		t.Fatalf("an argument was changed: %x", b)
	}
	if got := b[len(b) : len(b)+128]; !bytes.Equal(got, bytes.Repeat([]byte{0xde, 0xad}, 64)) {
		t.Fatalf("written behind the length: %x", got)
	}
}

// risingKey is the bytes 0, 1, .., 31.
func risingKey() api.Key {
	var k api.Key
	for i := range k {
		k[i] = byte(i)
	}
	return k
}

// unhex is the bytes that text writes out.
func unhex(t *testing.T, text string) []byte {
	t.Helper()
	b, err := hex.DecodeString(text)
	if err != nil {
		t.Fatal(err)
	}
	return b
}

// plainSum is the HMAC of the parts, by the library.
func plainSum(key []byte, parts ...[]byte) []byte {
	h := hmac.New(sha256.New, key)
	for _, p := range parts {
		h.Write(p)
	}
	return h.Sum(nil)
}

// drawing is a suite with these draws ahead, and its tape.
func drawing(mode int, draws []byte) (*Suite, *tape.Tape) {
	x := tape.New(draws)
	return New(mode, x), x
}

// unmade are suites that nobody made, by what they are.
func unmade() map[string]*Suite {
	return map[string]*Suite{"nil": nil, "zero value": {}}
}

// wantKey fails unless what a call answered is want, without an error.
func wantKey(t *testing.T, want []byte) func(api.Key, api.Errno) {
	return func(k api.Key, e api.Errno) {
		t.Helper()
		if e != api.OK || !bytes.Equal(k[:], want) {
			t.Fatalf("%x, error %d, not %x", k, e, want)
		}
	}
}

// wantNoKey fails unless a call answered that error alone.
func wantNoKey(t *testing.T, want api.Errno) func(api.Key, api.Errno) {
	return func(k api.Key, e api.Errno) {
		t.Helper()
		if e != want || k != (api.Key{}) {
			t.Fatalf("%x, error %d, not error %d alone", k, e, want)
		}
	}
}

// wantText fails unless a call answered want, without an error.
func wantText(t *testing.T, want []byte) func([]byte, api.Errno) {
	return func(b []byte, e api.Errno) {
		t.Helper()
		if e != api.OK || !bytes.Equal(b, want) {
			t.Fatalf("%x, error %d, not %x", b, e, want)
		}
	}
}

// wantNoText fails unless a call answered that error alone.
func wantNoText(t *testing.T, want api.Errno) func([]byte, api.Errno) {
	return func(b []byte, e api.Errno) {
		t.Helper()
		if e != want || b != nil {
			t.Fatalf("%x, error %d, not error %d alone", b, e, want)
		}
	}
}

// wantLeft fails unless n bytes are ahead.
func wantLeft(t *testing.T, x *tape.Tape, n int) {
	t.Helper()
	if x.Left() != n {
		t.Fatalf("%d left, not %d", x.Left(), n)
	}
}

// P7.1: the two modes and no other.
func TestNewOfEveryMode(t *testing.T) {
	for _, mode := range bothModes {
		for _, x := range []*tape.Tape{nil, {}, tape.New(nil), tape.New(sample(40))} {
			s := New(mode, x)
			if s == nil || s.Mode() != mode {
				t.Fatalf("mode %d: %v", mode, s)
			}
		}
	}
	for _, mode := range []int{-1, 2, 3, 256, 1 << 32, math.MaxInt, math.MinInt} {
		if New(mode, tape.New(sample(40))) != nil {
			t.Fatalf("a suite of mode %d", mode)
		}
	}
}

// P7.1: what the tape tells next, whoever else draws from it.
func TestDrawIsTheTapesNextKey(t *testing.T) {
	all := sample(32 + 5 + 32 + 31)
	for _, mode := range bothModes {
		s, x := drawing(mode, all)
		wantKey(t, all[:32])(s.Draw())
		wantLeft(t, x, 68)
		if _, e := x.Take(5); e != api.OK {
			t.Fatal(e)
		}
		wantKey(t, all[37:69])(s.Draw())
		wantNoKey(t, api.ErrEntropy)(s.Draw())
		wantLeft(t, x, 31)
	}
}

// P7.1: without a tape, or with one that nobody made, nothing is drawn.
func TestDrawOfNothing(t *testing.T) {
	for _, mode := range bothModes {
		for _, x := range []*tape.Tape{nil, {}, tape.New(nil), tape.New(sample(31))} {
			s := New(mode, x)
			for range 2 {
				wantNoKey(t, api.ErrEntropy)(s.Draw())
			}
		}
	}
}

// P7.1: every call of a suite that nobody made.
func TestASuiteThatNobodyMade(t *testing.T) {
	for what, s := range unmade() {
		t.Run(what, func(t *testing.T) {
			for range 2 { // the second time behind all calls
				if s.Mode() != 0 || s.Size(3) != 0 || s.Size(-1) != 0 {
					t.Fatal(s.Mode(), s.Size(3))
				}
				if a, b, is := s.Clash(); a != nil || b != nil || is {
					t.Fatal("a Clash")
				}
				wantNoKey(t, api.ErrRange)(s.Draw())
				wantNoKey(t, api.ErrRange)(s.Prf(api.Key{1}, 'o', []byte("in")))
				if id, e := s.Digest([]byte("a")); e != api.ErrRange || id != (api.Id{}) {
					t.Fatal(id, e)
				}
				wantNoText(t, api.ErrRange)(s.Seal(api.Key{1}, nil, []byte("a")))
				wantNoText(t, api.ErrRange)(s.Seal(api.Key{1}, nil, make([]byte, 65533)))
				wantNoText(t, api.ErrRange)(s.Open(api.Key{1}, nil, sample(76)))
				wantNoText(t, api.ErrRange)(s.Open(api.Key{1}, nil, nil))
				wantNoText(t, api.ErrRange)(s.Wrap(api.Key{1}, api.Key{2}))
				wantNoKey(t, api.ErrRange)(s.Unwrap(api.Key{1}, sample(108)))
				wantNoKey(t, api.ErrRange)(s.Unwrap(api.Key{1}, nil))
			}
		})
	}
}

// P7.2 to P7.6: of a Real suite nothing but Draw takes from the tape.
func TestRealDrawsNothingButByDraw(t *testing.T) {
	s, x := drawing(api.Real, sample(100))
	k := risingKey()
	if _, e := s.Prf(k, 'o', []byte("in")); e != api.OK {
		t.Fatal(e)
	}
	if _, e := s.Digest([]byte("a")); e != api.OK {
		t.Fatal(e)
	}
	ct, e := s.Wrap(k, k)
	if e != api.OK {
		t.Fatal(e)
	}
	wantKey(t, k[:])(s.Unwrap(k, ct))
	wantLeft(t, x, 100)
}

// P7.2: the HMAC of label and in; the vector was made by another program.
func TestRealPrf(t *testing.T) {
	k := risingKey()
	s := New(api.Real, nil)
	wantKey(t, unhex(t, "60405e989c20fcbf821a530d78c2e38a62e52a73af62ca772fcf60f0a40de95a"))(s.Prf(k, 'o', []byte("in")))
	for _, label := range []byte{0, 1, 'n', 'o', 127, 128, 255} {
		for _, n := range []int{0, 1, 31, 32, 63, 64, 65, 1000, 70000} {
			in := sample(n)
			wantKey(t, plainSum(k[:], []byte{label}, in))(s.Prf(k, label, in))
		}
	}
	wantKey(t, plainSum(make([]byte, 32), []byte{0}))(s.Prf(api.Key{}, 0, nil))
}

// P7.2: the same three again are told again; any other of the three is drawn.
func TestIdealPrf(t *testing.T) {
	type asked struct {
		k     api.Key
		label byte
		in    string
	}
	all := []asked{
		{api.Key{1}, 'o', "in"},
		{api.Key{2}, 'o', "in"},
		{api.Key{1}, 'p', "in"},
		{api.Key{1}, 'o', "im"},
		{api.Key{1}, 'o', "in\x00"},
		{api.Key{1}, 'o', ""},
		{api.Key{1}, 0, ""},
		{api.Key{31: 1}, 0, ""},
		{api.Key{}, 'o', "in"},
	}
	draws := sample(32*len(all) + 31)
	s, x := drawing(api.Ideal, draws)
	for range 3 {
		for i, a := range all {
			wantKey(t, draws[32*i:32*i+32])(s.Prf(a.k, a.label, []byte(a.in)))
		}
		wantLeft(t, x, 31)
		wantNoKey(t, api.ErrEntropy)(s.Prf(api.Key{9}, 'o', nil))
		wantLeft(t, x, 31)
	}
	wantKey(t, draws[32*5:32*6])(s.Prf(api.Key{1}, 'o', nil)) // P3: nil is empty
}

// P7.2, P7.3, P7.4: each call has its own table.
func TestIdealTablesAreApart(t *testing.T) {
	draws := sample(32 + 32 + 32 + 76)
	s, x := drawing(api.Ideal, draws)
	wantKey(t, draws[:32])(s.Prf(api.Key{}, 'a', nil))
	id, e := s.Digest([]byte("a"))
	wantKey(t, draws[32:64])(api.Key(id), e)
	wantKey(t, draws[64:96])(s.Draw())
	wantText(t, draws[96:])(s.Seal(api.Key{}, nil, []byte("a")))
	wantLeft(t, x, 0)
}

// P7.2: two suites on one tape have tables of their own.
func TestIdealSuitesOnOneTape(t *testing.T) {
	draws := sample(96)
	a, x := drawing(api.Ideal, draws)
	b := New(api.Ideal, x)
	wantKey(t, draws[:32])(a.Prf(api.Key{}, 'a', nil))
	wantKey(t, draws[32:64])(b.Prf(api.Key{}, 'a', nil))
	wantKey(t, draws[:32])(a.Prf(api.Key{}, 'a', nil))
	wantKey(t, draws[64:])(b.Draw())
}

// P2: what is given is neither changed nor kept, what lies behind its length isn't read.
func TestArgumentsStayAsTheyAre(t *testing.T) {
	k := risingKey()
	for _, mode := range bothModes {
		s, _ := drawing(mode, sample(2000))
		ad, plain := roomy([]byte("ad")), roomy([]byte("text"))
		ct, e := s.Seal(k, ad, plain)
		prf, f := s.Prf(k, 'o', plain)
		id, g := s.Digest(plain)
		if e != api.OK || f != api.OK || g != api.OK {
			t.Fatal(e, f, g)
		}
		untouched(t, ad, []byte("ad"))
		untouched(t, plain, []byte("text"))
		given := roomy(ct)
		wantText(t, []byte("text"))(s.Open(k, ad, given))
		untouched(t, ad, []byte("ad"))
		untouched(t, given, ct)
		clear(ad)
		clear(plain)
		clear(given)
		wantText(t, ct)(s.Seal(k, []byte("ad"), []byte("text")))
		wantText(t, []byte("text"))(s.Open(k, []byte("ad"), ct))
		wantKey(t, prf[:])(s.Prf(k, 'o', []byte("text")))
		again, e := s.Digest([]byte("text"))
		wantKey(t, id[:])(api.Key(again), e)
	}
}

// P2: an answer is nobody else's.
func TestAnswersShareNothing(t *testing.T) {
	k := risingKey()
	for _, mode := range bothModes {
		s, _ := drawing(mode, sample(2000))
		first, e := s.Seal(k, nil, []byte("text"))
		if e != api.OK {
			t.Fatal(e)
		}
		ct := slices.Clone(first)
		clear(first)
		_ = append(first, 0xaa)
		second, e := s.Seal(k, nil, []byte("text"))
		wantText(t, ct)(second, e)
		clear(second)
		text, e := s.Open(k, nil, ct)
		wantText(t, []byte("text"))(text, e)
		clear(text)
		_ = append(text, 0xaa)
		wantText(t, []byte("text"))(s.Open(k, nil, ct))
		wantText(t, ct)(s.Seal(k, nil, []byte("text")))
	}
}
