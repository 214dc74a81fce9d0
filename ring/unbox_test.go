package ring

import (
	"bytes"
	"math"
	"slices"
	"testing"

	"tabularium/api"
	"tabularium/suite"
	"tabularium/tape"
)

// The keys of the tests' own boxes: 10 and more are secrets, 20 and more groups' keys, 30 and more realms'.
func keyOf(n byte) api.Key { return api.Key{n, 1} }

// boxing makes boxes by a suite, as anybody may.
type boxing struct {
	t *testing.T
	s *suite.Suite
}

// wrap is key by kek.
func (b boxing) wrap(kek, key byte) []byte {
	b.t.Helper()
	ct, e := b.s.Wrap(keyOf(kek), keyOf(key))
	if e != api.OK {
		b.t.Fatal(e)
	}
	return ct
}

func (b boxing) group(of, epoch, member uint32, kek, key byte) api.Box {
	return api.Box{Kind: api.BoxGroup, Of: of, Epoch: epoch, For: member, Ct: b.wrap(kek, key)}
}

func (b boxing) realm(of, epoch, group, at uint32, kek, key byte) api.Box {
	return api.Box{Kind: api.BoxRealm, Of: of, Epoch: epoch, For: group, At: at, Ct: b.wrap(kek, key)}
}

func (b boxing) chain(of, epoch uint32, kek, key byte) api.Box {
	return api.Box{Kind: api.BoxChain, Of: of, Epoch: epoch, At: epoch - 1, Ct: b.wrap(kek, key)}
}

// wants fails unless Unbox of realm 5 for member 1, whose secret is key 10, is that key; 0 is ErrNoKey.
func (b boxing) wants(epoch uint32, want byte, l ...api.Box) {
	b.t.Helper()
	key, e := Unbox(b.s, keyOf(10), 1, 5, epoch, l)
	switch {
	case want == 0 && (e != api.ErrNoKey || key != (api.Key{})):
		b.t.Fatalf("epoch %d: %x, error %d, not ErrNoKey alone", epoch, key, e)
	case want != 0 && (e != api.OK || key != keyOf(want)):
		b.t.Fatalf("epoch %d: %x, error %d, not key %d", epoch, key, e, want)
	}
}

// inBothModes runs a test with boxes of each mode.
func inBothModes(t *testing.T, test func(b boxing)) {
	for _, mode := range []int{api.Real, api.Ideal} {
		_, s, _ := drawn(mode, 100000)
		test(boxing{t, s})
	}
}

// without is l without the box at place i.
func without(l []api.Box, i int) []api.Box {
	return slices.Concat(l[:i], l[i+1:])
}

// P21.4: by a group's key into the realm, and epoch by epoch down, whatever order the boxes have.
func TestUnbox(t *testing.T) {
	inBothModes(t, func(b boxing) {
		l := []api.Box{
			b.chain(5, 2, 32, 31), b.realm(5, 3, 7, 4, 20, 33), b.chain(5, 3, 33, 32), b.group(7, 4, 1, 10, 20), b.chain(5, 1, 31, 30),
		}
		for range 2 {
			for epoch, want := range []byte{30, 31, 32, 33, 0, 0} {
				b.wants(uint32(epoch), want, l...)
			}
			b.wants(math.MaxUint32, 0, l...)
			slices.Reverse(l)
		}
	})
}

// P21.4: nothing is there that could open.
func TestUnboxOfNothing(t *testing.T) {
	inBothModes(t, func(b boxing) {
		b.wants(0, 0)
		for _, l := range [][]api.Box{nil, {}, {{}}, {{Kind: api.BoxGroup, Of: 7, For: 1}, {Kind: api.BoxRealm, Of: 5, For: 7}}} {
			if key, e := Unbox(b.s, api.Key{}, 1, 5, 0, l); e != api.ErrNoKey || key != (api.Key{}) {
				t.Fatalf("%x, error %d", key, e)
			}
		}
	})
}

// P21.4: without any one of the boxes on the way there is no key; boxes that aren't on the way aren't needed.
func TestUnboxWithoutOne(t *testing.T) {
	inBothModes(t, func(b boxing) {
		way := []api.Box{b.group(7, 4, 1, 10, 20), b.realm(5, 3, 7, 4, 20, 33), b.chain(5, 3, 33, 32), b.chain(5, 2, 32, 31)}
		b.wants(1, 31, way...)
		for i := range way {
			b.wants(1, 0, without(way, i)...)
		}
		b.wants(2, 32, way[:3]...)
		b.wants(3, 33, way[:2]...)
	})
}

// P21.4: a box on the way that says something else about itself isn't on it.
func TestUnboxOfOtherBoxes(t *testing.T) {
	inBothModes(t, func(b boxing) {
		way := []api.Box{b.group(7, 4, 1, 10, 20), b.realm(5, 3, 7, 4, 20, 33), b.chain(5, 3, 33, 32)}
		b.wants(2, 32, way...)
		for i, was := range way {
			others := []api.Box{was, was, was, was, was}
			others[0].Kind = was.Kind%3 + 1
			others[1].Kind += 256
			others[2].Of++
			others[3].Epoch++
			others[4].Ct = bytes.Clone(was.Ct)
			others[4].Ct[20] ^= 1
			if was.Kind != api.BoxChain {
				other := was
				other.For++
				others = append(others, other)
			}
			if was.Kind == api.BoxRealm {
				other := was
				other.At++
				others = append(others, other)
				others = slices.Delete(others, 3, 4) // see TestUnboxFromAnyEpoch
			}
			for _, other := range others {
				way[i] = other
				b.wants(2, 0, way...)
			}
			way[i] = was
		}
		// What the document doesn't ask of them may be anything.
		way[0].At, way[2].For, way[2].At = 9, 9, 9
		b.wants(2, 32, way...)
	})
}

// P21.4: a realm's box leads in from its own epoch down, which is that of its chain.
func TestUnboxFromAnyEpoch(t *testing.T) {
	inBothModes(t, func(b boxing) {
		for _, top := range []uint32{1, 2, 77, math.MaxUint32} {
			l := []api.Box{b.group(7, 4, 1, 10, 20), b.realm(5, top, 7, 4, 20, 31), b.chain(5, top, 31, 30)}
			b.wants(top, 31, l...)
			b.wants(top-1, 30, l...)
			b.wants(top-2, 0, l...) // of 1: the greatest epoch there is
			b.wants(top+1, 0, without(l, 1)...)
		}
		l := []api.Box{b.group(7, 4, 1, 10, 20), b.realm(5, 0, 7, 4, 20, 30), b.chain(5, 0, 30, 31)}
		b.wants(0, 30, l...)
		b.wants(math.MaxUint32, 0, l...) // no way leads down from epoch 0
		b.wants(1, 0, l...)
	})
}

// P21.4: of the boxes that open the one with the least epoch is taken, from the one that is asked for on, and of these the first one.
func TestUnboxTakesTheLeastEpoch(t *testing.T) {
	inBothModes(t, func(b boxing) {
		g := b.group(7, 4, 1, 10, 20)
		l := []api.Box{b.realm(5, 3, 7, 4, 20, 33), b.realm(5, 1, 7, 4, 20, 31), g, b.realm(5, 2, 7, 4, 20, 32), b.realm(5, 1, 7, 4, 20, 41)}
		for epoch, want := range []byte{0, 31, 32, 33, 0} {
			b.wants(uint32(epoch), want, l...)
		}
		slices.Reverse(l)
		for epoch, want := range []byte{0, 41, 32, 33, 0} {
			b.wants(uint32(epoch), want, l...)
		}
		// Its way down counts, even if another one's would lead there.
		l = []api.Box{g, b.realm(5, 3, 7, 4, 20, 33), b.chain(5, 3, 33, 32), b.chain(5, 2, 32, 31), b.realm(5, 2, 7, 4, 20, 42)}
		b.wants(3, 33, l...)
		b.wants(2, 42, l...)
		b.wants(1, 0, l...)
		b.wants(1, 31, l[:4]...)
		// What doesn't open isn't taken, whatever its epoch is.
		l = []api.Box{g, b.realm(5, 1, 7, 4, 21, 41), b.realm(5, 1, 8, 4, 20, 42), b.realm(5, 1, 7, 3, 20, 43), b.realm(6, 1, 7, 4, 20, 44), b.realm(5, 2, 7, 4, 20, 32), b.chain(5, 2, 32, 31)}
		b.wants(1, 31, l...)
	})
}

// P21.4: of an epoch's chains the first one is taken, whether it opens or not; another realm's isn't one.
func TestUnboxTakesTheFirstChain(t *testing.T) {
	inBothModes(t, func(b boxing) {
		in := []api.Box{b.chain(6, 2, 32, 51), b.group(7, 4, 1, 10, 20), b.realm(5, 2, 7, 4, 20, 32)}
		right, other, wrong := b.chain(5, 2, 32, 31), b.chain(5, 2, 32, 41), b.chain(5, 2, 42, 31)
		b.wants(1, 0, in...)
		b.wants(1, 31, slices.Concat(in, []api.Box{right, other, wrong})...)
		b.wants(1, 41, slices.Concat(in, []api.Box{other, right})...)
		b.wants(1, 0, slices.Concat(in, []api.Box{wrong, right})...)
		b.wants(1, 31, slices.Concat([]api.Box{right}, in, []api.Box{wrong})...)
	})
}

// P21.4: any of the member's groups leads in, and any key that is said to be its key of that epoch.
func TestUnboxByAnyGroup(t *testing.T) {
	inBothModes(t, func(b boxing) {
		r := b.realm(5, 0, 7, 4, 20, 30)
		right := b.group(7, 4, 1, 10, 20)
		others := []api.Box{
			b.group(7, 4, 1, 10, 21), b.group(7, 4, 1, 11, 20), b.group(7, 3, 1, 10, 22), b.group(8, 4, 1, 10, 23), b.group(7, 4, 2, 10, 20), b.group(7, 4, 2, 11, 20),
		}
		b.wants(0, 0, append(others, r)...)
		for i := range len(others) + 1 {
			b.wants(0, 30, append(slices.Insert(slices.Clone(others), i, right), r)...)
		}
		// Two groups, of which the second one opens the lesser epoch.
		l := []api.Box{right, b.group(8, 0, 1, 10, 23), b.realm(5, 2, 7, 4, 20, 32), b.realm(5, 1, 8, 0, 23, 31)}
		for epoch, want := range []byte{0, 31, 32, 0} {
			b.wants(uint32(epoch), want, l...)
		}
	})
}

// P21.4: where two keys of a group's epoch open one box, as draws that are alike let them, it is the one that is told first.
func TestUnboxByTheFirstKey(t *testing.T) {
	size := suite.New(api.Ideal, nil).Size(32)
	s := suite.New(api.Ideal, tape.New(append(draws(2*size), make([]byte, 2*size)...)))
	b := boxing{t, s}
	l := []api.Box{b.group(7, 4, 1, 10, 20), b.group(7, 4, 1, 10, 21), b.realm(5, 0, 7, 4, 20, 30), b.realm(5, 0, 7, 4, 21, 31)}
	b.wants(0, 30, l...)
	l[0], l[1] = l[1], l[0]
	b.wants(0, 31, l...)
}

// P21.4: the secret, the member and the realm that are asked for, and no others.
func TestUnboxForOthers(t *testing.T) {
	inBothModes(t, func(b boxing) {
		l := []api.Box{b.group(7, 4, 1, 10, 20), b.realm(5, 0, 7, 4, 20, 30)}
		if key, e := Unbox(b.s, keyOf(10), 1, 5, 0, l); e != api.OK || key != keyOf(30) {
			t.Fatalf("%x, error %d", key, e)
		}
		for _, one := range []struct {
			secret     byte
			who, realm uint32
		}{{11, 1, 5}, {20, 1, 5}, {30, 1, 5}, {10, 2, 5}, {10, 0, 5}, {10, 7, 5}, {10, 1, 6}, {10, 1, 7}, {10, 1, 0}} {
			if key, e := Unbox(b.s, keyOf(one.secret), one.who, one.realm, 0, l); e != api.ErrNoKey || key != (api.Key{}) {
				t.Fatalf("%+v: %x, error %d", one, key, e)
			}
		}
	})
}

// P21.4, P1: with a suite that nobody made nothing opens; with one of other draws neither.
func TestUnboxWithOtherSuites(t *testing.T) {
	inBothModes(t, func(b boxing) {
		l := []api.Box{b.group(7, 4, 1, 10, 20), b.realm(5, 0, 7, 4, 20, 30)}
		for _, s := range []*suite.Suite{nil, {}, suite.New(api.Ideal, nil)} {
			if key, e := Unbox(s, keyOf(10), 1, 5, 0, l); e != api.ErrNoKey || key != (api.Key{}) {
				t.Fatalf("%x, error %d", key, e)
			}
		}
	})
}

// P21.4: boxes whose way goes round end, too.
func TestUnboxInARing(t *testing.T) {
	inBothModes(t, func(b boxing) {
		l := []api.Box{b.group(7, 4, 1, 10, 20), b.realm(5, 3, 7, 4, 20, 33)}
		for epoch := range uint32(5) {
			l = append(l, b.chain(5, epoch, 33, 33)) // each opens with what it has in it
		}
		for epoch := range uint32(4) {
			b.wants(epoch, 33, l...)
		}
		b.wants(4, 0, l...)
	})
}

// P21.4: Open is Unbox of all boxes with the secret, and draws nothing.
func TestOpenIsUnbox(t *testing.T) {
	for _, mode := range []int{api.Real, api.Ideal} {
		r, s, x := drawn(mode, 10000)
		for _, one := range told {
			does(t, r, one.change)
		}
		left := x.Left()
		for who := uint32(1); who <= 3; who++ {
			secret, _ := r.Secret(who)
			for realm := range uint32(25) {
				for epoch := range uint32(6) {
					a, e := r.Open(who, realm, epoch)
					b, f := Unbox(s, secret, who, realm, epoch, all(r))
					if a != b || e != f {
						t.Fatalf("%x, error %d; %x, error %d", a, e, b, f)
					}
				}
			}
			r.Keys(who)
		}
		if x.Left() != left {
			t.Fatalf("%d were drawn", left-x.Left())
		}
	}
}
