package suite

import (
	"bytes"
	"crypto/sha256"
	"slices"
	"testing"

	"tabularium/api"
)

// wantId fails unless the text's Digest is want.
func wantId(t *testing.T, s *Suite, text string, want []byte) {
	t.Helper()
	if id, e := s.Digest([]byte(text)); e != api.OK || !bytes.Equal(id[:], want) {
		t.Fatalf("Digest(%q): %x, error %d, not %x", text, id, e, want)
	}
}

// wantNoId fails unless the text's Digest is that error alone.
func wantNoId(t *testing.T, s *Suite, text string, want api.Errno) {
	t.Helper()
	if id, e := s.Digest([]byte(text)); e != want || id != (api.Id{}) {
		t.Fatalf("Digest(%q): %x, error %d, not error %d alone", text, id, e, want)
	}
}

// wantClash fails unless these two are told.
func wantClash(t *testing.T, s *Suite, earlier, later string) {
	t.Helper()
	a, b, is := s.Clash()
	if !is || string(a) != earlier || string(b) != later {
		t.Fatalf("Clash: %q, %q, %v, not %q, %q", a, b, is, earlier, later)
	}
}

// wantNoClash fails if something is told.
func wantNoClash(t *testing.T, s *Suite) {
	t.Helper()
	if a, b, is := s.Clash(); a != nil || b != nil || is {
		t.Fatalf("Clash: %q, %q, %v", a, b, is)
	}
}

// P7.3: SHA-256, again and again.
func TestRealDigest(t *testing.T) {
	s := New(api.Real, nil)
	wantId(t, s, "abc", unhex(t, "ba7816bf8f01cfea414140de5dae2223b00361a396177a9cb410ff61f20015ad"))
	for range 2 {
		for _, n := range []int{0, 1, 55, 56, 63, 64, 65, 1000, 70000} {
			b := sample(n)
			want := sha256.Sum256(b)
			wantId(t, s, string(b), want[:])
		}
	}
	wantNoClash(t, s)
	none := sha256.Sum256(nil)
	if id, e := s.Digest(nil); e != api.OK || id != none { // P3: nil is empty
		t.Fatal(id, e)
	}
}

// P7.3: that a real digest came for another text isn't thought away. Nobody has two such texts, so that one is laid there.
func TestRealDigestOfTwoTexts(t *testing.T) {
	s := New(api.Real, nil)
	same := sha256.Sum256([]byte("b"))
	s.digests.first[same] = firstText{text: "a"}
	wantNoClash(t, s)
	wantNoId(t, s, "b", api.ErrCollision)
	wantClash(t, s, "a", "b")
	wantNoId(t, s, "b", api.ErrCollision)
	other := sha256.Sum256([]byte("c"))
	wantId(t, s, "c", other[:])
	wantClash(t, s, "a", "b")
}

// P7.3: drawn once a text.
func TestIdealDigest(t *testing.T) {
	texts := []string{"", "a", "b", "a\x00", string(sample(70000)), string(sample(69999))}
	draws := sample(32*len(texts) + 31)
	s, x := drawing(api.Ideal, draws)
	for range 3 {
		for i, text := range texts {
			wantId(t, s, text, draws[32*i:32*i+32])
		}
		wantLeft(t, x, 31)
		wantNoId(t, s, "new", api.ErrEntropy)
		wantLeft(t, x, 31)
	}
	wantNoClash(t, s)
	if id, e := s.Digest(nil); e != api.OK || id != api.Id(draws) {
		t.Fatal(id, e)
	}
}

// P7.3: the document's example.
func TestIdealDigestWithoutDraws(t *testing.T) {
	s := New(api.Ideal, nil)
	for range 2 {
		wantNoId(t, s, "a", api.ErrEntropy)
		wantNoId(t, s, "", api.ErrEntropy)
		wantNoClash(t, s)
	}
}

// collisions is a suite whose draws are one, two, one, two, one, three.
func collisions() (s *Suite, left func() int, two, three []byte) {
	one := sample(32)
	two, three = bytes.Repeat([]byte{2}, 32), bytes.Repeat([]byte{3}, 32)
	s, x := drawing(api.Ideal, slices.Concat(one, two, one, two, one, three))
	return s, x.Left, two, three
}

// P7.3: the first one was answered; then both are refused, from then on, without a draw.
func TestIdealDigestOfTwoTexts(t *testing.T) {
	s, left, two, three := collisions()
	wantId(t, s, "a", sample(32))
	wantId(t, s, "b", two)
	wantId(t, s, "a", sample(32))
	wantNoClash(t, s)
	wantNoId(t, s, "c", api.ErrCollision)
	wantClash(t, s, "a", "c")
	for range 2 {
		wantNoId(t, s, "a", api.ErrCollision)
		wantNoId(t, s, "c", api.ErrCollision)
		wantId(t, s, "b", two) // the others go on
	}
	if left() != 3*32 {
		t.Fatalf("%d left: what was drawn ahead of the error stays drawn, and nothing more is", left())
	}
	wantNoId(t, s, "d", api.ErrCollision) // with b
	wantNoId(t, s, "b", api.ErrCollision)
	wantNoId(t, s, "e", api.ErrCollision) // with a and c
	wantId(t, s, "f", three)
	for _, text := range []string{"a", "b", "c", "d", "e"} {
		wantNoId(t, s, text, api.ErrCollision)
	}
	wantId(t, s, "f", three)
	wantClash(t, s, "a", "c") // still the first case
	wantNoId(t, s, "g", api.ErrEntropy)
}

// P7.3: the empty text is a text, whichever of the two it is.
func TestIdealDigestOfTheEmptyTextAndAnother(t *testing.T) {
	for _, texts := range [][2]string{{"", "a"}, {"a", ""}} {
		s, _ := drawing(api.Ideal, make([]byte, 64))
		wantId(t, s, texts[0], make([]byte, 32))
		wantNoId(t, s, texts[1], api.ErrCollision)
		wantNoId(t, s, texts[0], api.ErrCollision)
		wantClash(t, s, texts[0], texts[1])
	}
}

// P7.3: only Digest's answers are held against each other.
func TestOtherAnswersDontClash(t *testing.T) {
	s, _ := drawing(api.Ideal, make([]byte, 32*4+2*76))
	for _, label := range []byte("ab") {
		wantKey(t, make([]byte, 32))(s.Prf(api.Key{}, label, nil))
	}
	wantKey(t, make([]byte, 32))(s.Draw())
	wantText(t, make([]byte, 76))(s.Seal(api.Key{}, nil, []byte("a")))
	wantText(t, make([]byte, 76))(s.Seal(api.Key{}, nil, []byte("b")))
	wantId(t, s, "a", make([]byte, 32))
	wantNoClash(t, s)
}

// P2: what Clash tells is nobody else's.
func TestClashTellsNewMemory(t *testing.T) {
	s, _ := drawing(api.Ideal, make([]byte, 64))
	earlier, later := []byte("earlier"), []byte("later")
	if _, e := s.Digest(earlier); e != api.OK {
		t.Fatal(e)
	}
	if _, e := s.Digest(later); e != api.ErrCollision {
		t.Fatal(e)
	}
	clear(earlier)
	clear(later)
	wantClash(t, s, "earlier", "later")
	a, b, _ := s.Clash()
	clear(a)
	clear(b)
	wantClash(t, s, "earlier", "later")
	wantNoId(t, s, "earlier", api.ErrCollision)
}
