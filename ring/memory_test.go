package ring

import (
	"slices"
	"testing"

	"tabularium/api"
)

// spoil changes all bytes that a box has, and what lies behind them.
func spoil(b api.Box) {
	room := b.Ct[:cap(b.Ct)]
	for i := range room {
		room[i] ^= 0xff
	}
}

// P2: what is told may be changed; the Ring and its boxes stay as they are.
func TestMemoryOfBoxes(t *testing.T) {
	for _, mode := range []int{api.Real, api.Ideal} {
		r, _, _ := drawn(mode, 10000)
		for i, one := range told {
			does(t, r, one.change)
			was := picture(r)
			boxes := r.Boxes()
			for range 2 { // each going through tells new memory
				for b := range boxes {
					spoil(b)
				}
			}
			for b := range r.Boxes() {
				spoil(b)
			}
			if picture(r) != was {
				t.Fatalf("behind change %d: it was spoilt", i)
			}
		}
	}
}

// P2: no two boxes that are told share memory.
func TestMemoryOfTwoBoxes(t *testing.T) {
	r, _, _ := drawn(api.Ideal, 10000)
	for _, one := range told {
		does(t, r, one.change)
	}
	l, want := all(r), all(r)
	for i := range l {
		spoil(l[i])
		if !same(l[i+1:], want[i+1:]) {
			t.Fatalf("box %d shares memory with one behind it", i)
		}
	}
}

// P2: a list of keys is the caller's.
func TestMemoryOfKeys(t *testing.T) {
	r, _, _ := drawn(api.Real, 10000)
	for _, one := range told {
		does(t, r, one.change)
	}
	was := picture(r)
	l := r.Keys(2)
	clear(l[:cap(l)])
	if picture(r) != was {
		t.Fatal("it was spoilt")
	}
}

// P2: the boxes that Unbox is given are only read, and nothing behind the list's length is; the keys don't hang on them later.
func TestMemoryOfUnbox(t *testing.T) {
	inBothModes(t, func(b boxing) {
		whole := []api.Box{
			b.group(7, 4, 1, 10, 20), b.realm(5, 3, 7, 4, 20, 33), b.chain(5, 3, 33, 32),
			b.realm(5, 2, 7, 4, 20, 42), b.chain(5, 2, 32, 31), // behind the length
		}
		was := slices.Clone(whole)
		for i := range was {
			was[i].Ct = slices.Clone(whole[i].Ct)
		}
		l := whole[:3]
		b.wants(2, 32, l...)
		if key, e := Unbox(b.s, keyOf(10), 1, 5, 1, l); e != api.ErrNoKey {
			b.t.Fatalf("%x, error %d", key, e)
		}
		if key, e := Unbox(b.s, keyOf(10), 1, 5, 2, l); e != api.OK || key != keyOf(32) {
			b.t.Fatalf("%x, error %d", key, e)
		}
		if !same(whole, was) {
			b.t.Fatal("the boxes were changed")
		}
	})
}
