package ring

import (
	"crypto/sha256"
	"fmt"
	"math"
	"reflect"
	"slices"
	"testing"

	"tabularium/api"
	"tabularium/suite"
	"tabularium/tape"
)

// draws is so many bytes, no 32 of which are like others.
func draws(n int) []byte {
	var out []byte
	for i := 0; len(out) < n; i++ {
		sum := sha256.Sum256(fmt.Append(nil, "draws ", i))
		out = append(out, sum[:]...)
	}
	return out[:n]
}

// drawn is a Ring of that mode with so many bytes to draw, its suite and its tape.
func drawn(mode, n int) (*Ring, *suite.Suite, *tape.Tape) {
	x := tape.New(draws(n))
	s := suite.New(mode, x)
	return New(s), s, x
}

// The changes, by what they need.

func addPrincipal(who uint32) api.Change { return api.Change{Kind: api.AddPrincipal, Who: who} }

func addGroup(group uint32) api.Change { return api.Change{Kind: api.AddGroup, Group: group} }

func addRealm(group, realm uint32) api.Change {
	return api.Change{Kind: api.AddRealm, Group: group, Realm: realm}
}

func enrol(who, group uint32) api.Change {
	return api.Change{Kind: api.Enrol, Who: who, Group: group}
}

func expel(who, group uint32) api.Change {
	return api.Change{Kind: api.Expel, Who: who, Group: group}
}

func grant(group, realm uint32) api.Change {
	return api.Change{Kind: api.Grant, Group: group, Realm: realm}
}

func revoke(group, realm uint32) api.Change {
	return api.Change{Kind: api.Revoke, Group: group, Realm: realm}
}

// does makes the changes, and fails unless each of them is OK.
func does(t *testing.T, r *Ring, changes ...api.Change) {
	t.Helper()
	for _, c := range changes {
		if e := r.Do(c); e != api.OK {
			t.Fatalf("%+v: error %d", c, e)
		}
	}
}

// all is the boxes that r tells.
func all(r *Ring) []api.Box {
	return slices.Collect(r.Boxes())
}

// same says whether these are the same boxes.
func same(a, b []api.Box) bool {
	return slices.EqualFunc(a, b, func(x, y api.Box) bool { return reflect.DeepEqual(x, y) })
}

// asked is the numbers for which picture asks; tests have no others.
var asked = []uint32{0, 1, 2, 3, 4, 5, 9, 70, math.MaxUint32}

// picture is all that r answers, as a text.
func picture(r *Ring) string {
	out := fmt.Sprintf("%+v\n", all(r))
	for _, n := range asked {
		secret, is := r.Secret(n)
		epoch, has := r.Epoch(n)
		out += fmt.Sprint(n, secret, is, epoch, has, r.Keys(n), "\n")
	}
	return out
}

// short is what a message tells of x, which may be long.
func short(x any) string {
	s := fmt.Sprintf("%+v", x)
	return s[:min(len(s), 500)]
}

// wantOpen fails unless who opens the realm's epoch, and its key is this.
func wantOpen(t *testing.T, r *Ring, who, realm, epoch uint32, want api.Key) {
	t.Helper()
	if key, e := r.Open(who, realm, epoch); e != api.OK || key != want {
		t.Fatalf("Open(%d, %d, %d): %x, error %d, not %x", who, realm, epoch, key, e, want)
	}
}

// wantClosed fails unless Open is that error alone.
func wantClosed(t *testing.T, r *Ring, who, realm, epoch uint32, want api.Errno) {
	t.Helper()
	if key, e := r.Open(who, realm, epoch); e != want || key != (api.Key{}) {
		t.Fatalf("Open(%d, %d, %d): %x, error %d, not error %d alone", who, realm, epoch, key, e, want)
	}
}

// wantNothing fails unless r has nobody and nothing.
func wantNothing(t *testing.T, r *Ring) {
	t.Helper()
	for range r.Boxes() {
		t.Fatal("there is a box")
	}
	for _, n := range asked {
		if key, is := r.Secret(n); is || key != (api.Key{}) {
			t.Fatalf("Secret(%d): %x, %t", n, key, is)
		}
		if epoch, is := r.Epoch(n); is || epoch != 0 {
			t.Fatalf("Epoch(%d): %d, %t", n, epoch, is)
		}
		if l := r.Keys(n); l != nil {
			t.Fatalf("Keys(%d): %+v", n, l)
		}
	}
}

// P21.1, and the document's example: nobody and nothing, and nothing drawn for it.
func TestNew(t *testing.T) {
	for _, mode := range []int{api.Real, api.Ideal} {
		r, _, x := drawn(mode, 100)
		wantNothing(t, r)
		for _, n := range asked {
			wantClosed(t, r, n, n, 0, api.ErrPrincipal)
		}
		if x.Left() != 100 {
			t.Fatalf("%d left", x.Left())
		}
	}
}

// P21.1: keys come from the suite's draws, in the order of the changes.
func TestKeysAreDrawn(t *testing.T) {
	d := draws(96)
	r, _, x := drawn(api.Real, 96)
	does(t, r, addPrincipal(1), addGroup(2), addRealm(2, 3), enrol(1, 2))
	if secret, is := r.Secret(1); !is || secret != api.Key(d[:32]) {
		t.Fatalf("Secret: %x, %t", secret, is)
	}
	wantOpen(t, r, 1, 3, 0, api.Key(d[64:96]))
	if x.Left() != 0 {
		t.Fatalf("%d left", x.Left())
	}
}

// P21.1, P2: a Ring draws from the suite that it was given, with all that others draw there.
func TestTwoRingsOfOneSuite(t *testing.T) {
	d := draws(64)
	r, s, _ := drawn(api.Real, 64)
	other := New(s)
	does(t, r, addPrincipal(1))
	does(t, other, addPrincipal(1))
	a, _ := r.Secret(1)
	b, _ := other.Secret(1)
	if a != api.Key(d[:32]) || b != api.Key(d[32:]) {
		t.Fatalf("%x, %x", a, b)
	}
}

// P21.1, P1: of a suite that nobody made no key is drawn, so nobody comes there.
func TestNewOfNoSuite(t *testing.T) {
	for _, s := range []*suite.Suite{nil, {}} {
		r := New(s)
		for range 2 {
			for _, c := range []api.Change{addPrincipal(1), addGroup(1), {}, {Kind: 8}} {
				if e := r.Do(c); e != api.ErrRange {
					t.Fatalf("%+v: error %d", c, e)
				}
			}
			for c, want := range map[api.Change]api.Errno{
				addRealm(1, 1): api.ErrGroup,
				enrol(1, 1):    api.ErrPrincipal,
				expel(1, 1):    api.ErrPrincipal,
				grant(1, 1):    api.ErrGroup,
				revoke(1, 1):   api.ErrGroup,
			} {
				if e := r.Do(c); e != want {
					t.Fatalf("%+v: error %d, not %d", c, e, want)
				}
			}
			wantNothing(t, r)
			wantClosed(t, r, 1, 1, 0, api.ErrPrincipal)
		}
	}
}

// P21.4, P1: a Ring that nobody made.
func TestNobodysRing(t *testing.T) {
	for _, r := range []*Ring{nil, {}} {
		for range 2 {
			wantNothing(t, r)
			for kind := -1; kind <= 8; kind++ {
				if e := r.Do(api.Change{Kind: kind, Who: 1, Group: 1, Realm: 1}); e != api.ErrRange {
					t.Fatalf("Kind %d: error %d", kind, e)
				}
			}
			for _, n := range asked {
				wantClosed(t, r, n, n, n, api.ErrRange)
			}
		}
	}
}

// P21.3: which secrets and epochs there are, by the numbers as they are.
func TestSecretAndEpoch(t *testing.T) {
	numbers := []uint32{0, 1, 70, math.MaxUint32}
	r, s, _ := drawn(api.Real, 10000)
	next := s.Draw
	met := map[api.Key]bool{}
	for _, n := range numbers {
		does(t, r, addPrincipal(n))
		secret, is := r.Secret(n)
		if !is || met[secret] {
			t.Fatalf("Secret(%d): %x, %t", n, secret, is)
		}
		met[secret] = true
		if again, _ := r.Secret(n); again != secret {
			t.Fatalf("Secret(%d): %x, then %x", n, secret, again)
		}
	}
	if key, e := next(); e != api.OK || met[key] {
		t.Fatal("it drew what was drawn already")
	}
	does(t, r, addGroup(5))
	for _, n := range numbers {
		if _, is := r.Epoch(n); is {
			t.Fatalf("there is a realm %d", n)
		}
		does(t, r, addRealm(5, n))
		for want := range uint32(3) {
			if epoch, is := r.Epoch(n); !is || epoch != want {
				t.Fatalf("Epoch(%d): %d, %t, not %d", n, epoch, is, want)
			}
			does(t, r, revoke(5, n), grant(5, n))
		}
	}
	for _, n := range []uint32{2, 5, 69, math.MaxUint32 - 1} {
		_, who := r.Secret(n)
		_, realm := r.Epoch(n)
		if who || realm {
			t.Fatalf("%d is there: %t, %t", n, who, realm)
		}
	}
}
