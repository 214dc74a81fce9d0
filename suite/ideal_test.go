package suite

import (
	"bytes"
	"slices"
	"testing"

	"tabularium/api"
	"tabularium/tape"
)

// sealing is what a Seal is asked for, as the tests write it.
type sealing struct {
	k         api.Key
	ad, plain string
}

// P7.4: Size bytes of draws for each new three; the same three again are told again.
func TestIdealSeal(t *testing.T) {
	all := []sealing{
		{api.Key{1}, "ad", "text"},
		{api.Key{2}, "ad", "text"},
		{api.Key{1}, "Ad", "text"},
		{api.Key{1}, "ad", "Text"},
		{api.Key{1}, "adt", "ext"}, // ad and plain don't run together
		{api.Key{1}, "", "adtext"},
		{api.Key{1}, "adtext", ""},
		{api.Key{}, "", ""},
		{api.Key{1}, "ad", string(sample(28))},
		{api.Key{1}, "ad", string(sample(29))},
		{api.Key{1}, "ad", string(sample(65532))},
	}
	draws := sample(9*76 + 108 + 65580 + 75)
	s, x := drawing(api.Ideal, draws)
	for range 3 {
		at := 0
		for _, a := range all {
			size := s.Size(len(a.plain))
			wantText(t, draws[at:at+size])(s.Seal(a.k, []byte(a.ad), []byte(a.plain)))
			at += size
		}
		wantLeft(t, x, 75)
		wantNoText(t, api.ErrEntropy)(s.Seal(api.Key{3}, nil, nil))
		wantLeft(t, x, 75)
	}
	wantText(t, draws[7*76:8*76])(s.Seal(api.Key{}, nil, nil)) // P3: nil is empty
}

// P7.5, P7.7: what Seal answered, with the same key and ad; nothing else.
func TestIdealOpen(t *testing.T) {
	s, x := drawing(api.Ideal, sample(300000))
	k, ad := risingKey(), []byte("ad")
	for _, n := range textLengths {
		ct := mustSeal(t, s, k, ad, sample(n))
		left := x.Left()
		for range 2 {
			wantText(t, sample(n))(s.Open(k, ad, ct))
		}
		wantNoText(t, api.ErrAuth)(s.Open(api.Key{}, ad, ct))
		for _, wrong := range []string{"", "a", "AD", "add"} {
			wantNoText(t, api.ErrAuth)(s.Open(k, []byte(wrong), ct))
		}
		for _, at := range []int{0, 11, 12, 43, len(ct) - 33, len(ct) - 32, len(ct) - 1} {
			wrong := slices.Clone(ct)
			wrong[at] ^= 1
			wantNoText(t, api.ErrAuth)(s.Open(k, ad, wrong))
		}
		wantNoText(t, api.ErrAuth)(s.Open(k, ad, ct[:len(ct)-1]))
		wantNoText(t, api.ErrAuth)(s.Open(k, ad, ct[1:]))
		wantNoText(t, api.ErrAuth)(s.Open(k, ad, append(slices.Clone(ct), 0)))
		wantNoText(t, api.ErrAuth)(s.Open(k, ad, nil))
		wantLeft(t, x, left)
	}
}

// P7.5: what nobody sealed here isn't opened, were it sealed by a real suite or by another ideal one.
func TestIdealOpenOfOthersSeals(t *testing.T) {
	k := risingKey()
	s, _ := drawing(api.Ideal, sample(200))
	wantNoText(t, api.ErrAuth)(s.Open(k, nil, nil))
	wantNoText(t, api.ErrAuth)(s.Open(k, nil, mustSeal(t, New(api.Real, nil), k, nil, []byte("text"))))
	other, _ := drawing(api.Ideal, sample(200))
	ct := mustSeal(t, other, k, nil, []byte("text"))
	wantNoText(t, api.ErrAuth)(s.Open(k, nil, ct))
	wantText(t, ct)(s.Seal(k, nil, []byte("mine"))) // the same draws
	wantText(t, []byte("mine"))(s.Open(k, nil, ct))
	wantText(t, []byte("text"))(other.Open(k, nil, ct))
}

// P7.5: a refused Seal leaves nothing that could be opened.
func TestIdealOpenBehindARefusal(t *testing.T) {
	s, x := drawing(api.Ideal, make([]byte, 100))
	wantNoText(t, api.ErrEntropy)(s.Seal(api.Key{}, nil, sample(29)))
	wantNoText(t, api.ErrLong)(s.Seal(api.Key{}, nil, make([]byte, 65533)))
	wantLeft(t, x, 100)
	for _, n := range []int{0, 76, 100, 108} {
		wantNoText(t, api.ErrAuth)(s.Open(api.Key{}, nil, make([]byte, n)))
	}
	wantText(t, make([]byte, 76))(s.Seal(api.Key{}, nil, sample(28)))
}

// alike is a suite whose Seals of short texts are all the same, which is told, too.
func alike(n int) (*Suite, []byte) {
	ct := sample(76)
	s, _ := drawing(api.Ideal, bytes.Repeat(ct, n))
	return s, ct
}

// P7.5: of several texts with one Seal the latest one.
func TestIdealOpenOfTheLatest(t *testing.T) {
	s, ct := alike(4)
	for _, text := range []string{"one", "two", "", "three"} {
		wantText(t, ct)(s.Seal(api.Key{1}, []byte("ad"), []byte(text)))
		wantText(t, []byte(text))(s.Open(api.Key{1}, []byte("ad"), ct))
	}
	wantNoText(t, api.ErrEntropy)(s.Seal(api.Key{1}, []byte("ad"), []byte("four")))
	wantText(t, []byte("three"))(s.Open(api.Key{1}, []byte("ad"), ct))
}

// P7.5: the latest with this key and ad, whatever was sealed behind it with others.
func TestIdealOpenHangsOnKeyAndAd(t *testing.T) {
	s, ct := alike(5)
	all := []sealing{
		{api.Key{1}, "ad", "one"},
		{api.Key{2}, "ad", "two"},
		{api.Key{1}, "AD", "three"},
		{api.Key{2}, "AD", "four"},
	}
	for _, a := range all {
		wantText(t, ct)(s.Seal(a.k, []byte(a.ad), []byte(a.plain)))
	}
	for _, a := range all {
		wantText(t, []byte(a.plain))(s.Open(a.k, []byte(a.ad), ct))
	}
	wantNoText(t, api.ErrAuth)(s.Open(api.Key{3}, []byte("ad"), ct))
	wantNoText(t, api.ErrAuth)(s.Open(api.Key{1}, nil, ct))
	wantText(t, ct)(s.Seal(api.Key{2}, []byte("ad"), []byte("five")))
	wantText(t, []byte("one"))(s.Open(api.Key{1}, []byte("ad"), ct))
	wantText(t, []byte("five"))(s.Open(api.Key{2}, []byte("ad"), ct))
}

// P7.7: a Seal that is asked again is the latest one then: behind it Open tells its text.
func TestIdealOpenOfASealThatIsAskedAgain(t *testing.T) {
	s, ct := alike(3)
	k := api.Key{1}
	for range 3 {
		for _, text := range []string{"one", "two", "three", "two", "one"} {
			wantText(t, ct)(s.Seal(k, nil, []byte(text)))
			wantText(t, []byte(text))(s.Open(k, nil, ct))
		}
	}
	if n := len(s.drawn.asked[string(ct)]); n != 3 {
		t.Fatalf("%d are kept for three texts", n)
	}
}

// P7.6, P7.7: a key is unwrapped, the latest one if draws were the same.
func TestIdealWrapOfTheSameDraws(t *testing.T) {
	s, _ := drawing(api.Ideal, make([]byte, 2*108))
	for _, k := range []api.Key{{1}, {2}, {1}} {
		ct, e := s.Wrap(api.Key{9}, k)
		wantText(t, make([]byte, 108))(ct, e)
		wantKey(t, k[:])(s.Unwrap(api.Key{9}, ct))
	}
}

// P7.7: there and back, all Seals first, in both modes.
func TestThereAndBack(t *testing.T) {
	for _, mode := range bothModes {
		s, _ := drawing(mode, sample(2000000))
		var all []sealing
		var cts [][]byte
		for i, n := range textLengths {
			for _, ad := range []string{"", "ad"} {
				a := sealing{api.Key{byte(i)}, ad, string(sample(n))}
				all = append(all, a)
				cts = append(cts, mustSeal(t, s, a.k, []byte(a.ad), []byte(a.plain)))
			}
		}
		for i, a := range all {
			wantText(t, []byte(a.plain))(s.Open(a.k, []byte(a.ad), cts[i]))
			if len(cts[i]) != s.Size(len(a.plain)) {
				t.Fatalf("%d bytes of a text of %d", len(cts[i]), len(a.plain))
			}
		}
	}
}

// seen is all that a play with these plains answers, but for what Open tells.
func seen(t *testing.T, draws *tape.Tape, plains []string) []string {
	t.Helper()
	s := New(api.Ideal, draws)
	var out []string
	note := func(b []byte, e api.Errno) {
		out = append(out, string(b), string(rune('0'+e)))
	}
	for i, plain := range plains {
		k := api.Key{byte(i / 2)}
		ct, e := s.Seal(k, []byte("ad"), []byte(plain))
		note(ct, e)
		prf, e := s.Prf(k, 'o', ct)
		note(prf[:], e)
		id, e := s.Digest(ct)
		note(id[:], e)
		box, e := s.Wrap(k, api.Key{byte(i)})
		note(box, e)
		drawn, e := s.Draw()
		note(drawn[:], e)
		_, e = s.Open(k, []byte("ad"), ct)
		note(nil, e)
		note(s.Open(k, []byte("other"), ct))
		a, b, is := s.Clash()
		if is {
			note(append(a, b...), api.ErrCollision)
		}
	}
	return append(out, string(rune('0'+draws.Left())))
}

// P7.8: what is seen doesn't hang on the plains, only on their buckets; draws that run out, or are all the same, too.
func TestBlind(t *testing.T) {
	one := []string{"", "a", "text", string(sample(29)), string(sample(60)), string(sample(1000)), string(sample(125))}
	two := []string{string(sample(28)), "b", "", "five and twenty, and thirty", string(make([]byte, 45)), string(make([]byte, 600)), string(make([]byte, 252))}
	two[3] += ", and some more"
	for i := range one {
		if plainBucket(len(one[i])) != plainBucket(len(two[i])) {
			t.Fatalf("the plains at %d aren't of one bucket", i)
		}
	}
	for _, draws := range [][]byte{sample(10000), sample(2000), sample(500), make([]byte, 10000), nil} {
		a, b := seen(t, tape.New(draws), one), seen(t, tape.New(draws), two)
		if !slices.Equal(a, b) {
			t.Fatalf("with %d draws two plays are told apart", len(draws))
		}
	}
	if slices.Equal(seen(t, tape.New(sample(10000)), one), seen(t, tape.New(sample(10000)), one[1:])) {
		t.Fatal("nothing is told at all")
	}
}
