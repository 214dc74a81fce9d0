package ring

import (
	"reflect"
	"slices"
	"testing"

	"tabularium/api"
	"tabularium/suite"
	"tabularium/tape"
)

// step is what a change does with its suite: a draw, or (with a Kind) a box in which key is by kek. These two are numbers of draws.
type step struct {
	box      api.Box
	kek, key int
}

func groupBox(of, epoch, member uint32, kek, key int) step {
	return step{api.Box{Kind: api.BoxGroup, Of: of, Epoch: epoch, For: member}, kek, key}
}

func realmBox(of, epoch, group, at uint32, kek, key int) step {
	return step{api.Box{Kind: api.BoxRealm, Of: of, Epoch: epoch, For: group, At: at}, kek, key}
}

func chainBox(of, epoch, at uint32, kek, key int) step {
	return step{api.Box{Kind: api.BoxChain, Of: of, Epoch: epoch, At: at}, kek, key}
}

// told is changes of all kinds, each with all that it does, in order.
var told = []struct {
	change api.Change
	steps  []step
}{
	{addPrincipal(3), []step{{}}}, // draw 0
	{addPrincipal(1), []step{{}}}, // 1
	{addPrincipal(2), []step{{}}}, // 2
	{addGroup(7), []step{{}}},     // 3
	{addGroup(5), []step{{}}},     // 4
	{addRealm(7, 20), []step{{}, realmBox(20, 0, 7, 0, 3, 5)}},
	{addRealm(7, 10), []step{{}, realmBox(10, 0, 7, 0, 3, 6)}},
	{enrol(3, 7), []step{groupBox(7, 0, 3, 0, 3)}},
	{enrol(1, 7), []step{groupBox(7, 0, 1, 1, 3)}},
	{enrol(2, 7), []step{groupBox(7, 0, 2, 2, 3)}},
	{enrol(2, 5), []step{groupBox(5, 0, 2, 2, 4)}},
	{grant(5, 20), []step{realmBox(20, 0, 5, 0, 4, 5)}},
	{expel(1, 7), []step{
		{}, groupBox(7, 1, 2, 2, 7), groupBox(7, 1, 3, 0, 7),
		{}, chainBox(10, 1, 0, 8, 6), realmBox(10, 1, 7, 1, 7, 8),
		{}, chainBox(20, 1, 0, 9, 5), realmBox(20, 1, 5, 0, 4, 9), realmBox(20, 1, 7, 1, 7, 9),
	}},
	{revoke(7, 20), []step{
		{}, groupBox(7, 2, 2, 2, 10), groupBox(7, 2, 3, 0, 10), realmBox(10, 1, 7, 2, 10, 8),
		{}, chainBox(20, 2, 1, 11, 9), realmBox(20, 2, 5, 0, 4, 11),
	}},
	{revoke(5, 20), []step{
		{}, groupBox(5, 1, 2, 2, 12),
		{}, chainBox(20, 3, 2, 13, 11),
	}},
	{grant(7, 20), []step{realmBox(20, 3, 7, 2, 10, 13)}},
	{expel(2, 5), []step{{}}}, // 14
	{enrol(1, 5), []step{groupBox(5, 2, 1, 1, 14)}},
	{addRealm(5, 15), []step{{}, realmBox(15, 0, 5, 2, 14, 15)}},
	{grant(7, 15), []step{realmBox(15, 0, 7, 2, 10, 15)}},
	{revoke(7, 20), []step{
		{}, groupBox(7, 3, 2, 2, 16), groupBox(7, 3, 3, 0, 16), realmBox(10, 1, 7, 3, 16, 8), realmBox(15, 0, 7, 3, 16, 15),
		{}, chainBox(20, 4, 3, 17, 13),
	}},
	{expel(3, 7), []step{
		{}, groupBox(7, 4, 2, 2, 18),
		{}, chainBox(10, 2, 1, 19, 8), realmBox(10, 2, 7, 4, 18, 19),
		{}, chainBox(15, 1, 0, 20, 15), realmBox(15, 1, 5, 2, 14, 20), realmBox(15, 1, 7, 4, 18, 20),
	}},
}

// replay is the suite's draws and the boxes, as far as it does steps.
type replay struct {
	s     *suite.Suite
	x     *tape.Tape
	keys  []api.Key
	boxes []api.Box
}

func newReplay(mode, n int) *replay {
	x := tape.New(draws(n))
	return &replay{s: suite.New(mode, x), x: x}
}

// does is the first error of the steps; only without one there are their boxes.
func (p *replay) does(steps []step) api.Errno {
	was := len(p.boxes)
	for _, one := range steps {
		var e api.Errno
		if one.box.Kind == 0 {
			var key api.Key
			key, e = p.s.Draw()
			p.keys = append(p.keys, key)
		} else {
			b := one.box
			b.Ct, e = p.s.Wrap(p.keys[one.kek], p.keys[one.key])
			p.boxes = append(p.boxes, b)
		}
		if e != api.OK {
			p.boxes = p.boxes[:was]
			return e
		}
	}
	return api.OK
}

// P21.2, P21.3: which draws and boxes each change makes, in which order, and what stands in each.
func TestBoxes(t *testing.T) {
	for _, mode := range []int{api.Real, api.Ideal} {
		r, _, x := drawn(mode, 10000)
		p := newReplay(mode, 10000)
		for i, one := range told {
			if e := p.does(one.steps); e != api.OK {
				t.Fatal(e)
			}
			does(t, r, one.change)
			if got := all(r); !same(got, p.boxes) {
				t.Fatalf("change %d, %+v: %+v\nnot %+v", i, one.change, got, p.boxes)
			}
			if x.Left() != p.x.Left() {
				t.Fatalf("change %d: %d left, not %d", i, x.Left(), p.x.Left())
			}
		}
		wantKeys(t, r, p)
	}
}

// wantKeys fails unless behind all that was told the keys are those that p drew.
func wantKeys(t *testing.T, r *Ring, p *replay) {
	t.Helper()
	for who, draw := range map[uint32]int{3: 0, 1: 1, 2: 2} {
		if secret, is := r.Secret(who); !is || secret != p.keys[draw] {
			t.Fatalf("Secret(%d): %x, %t", who, secret, is)
		}
	}
	for realm, want := range map[uint32]uint32{10: 2, 15: 1, 20: 4} {
		if epoch, is := r.Epoch(realm); !is || epoch != want {
			t.Fatalf("Epoch(%d): %d, %t, not %d", realm, epoch, is, want)
		}
	}
	key := func(realm, epoch uint32, draw int) api.RealmKey {
		return api.RealmKey{Realm: realm, Epoch: epoch, Key: p.keys[draw]}
	}
	ten, fifteen := []api.RealmKey{key(10, 0, 6), key(10, 1, 8), key(10, 2, 19)}, []api.RealmKey{key(15, 0, 15), key(15, 1, 20)}
	twenty := []api.RealmKey{key(20, 0, 5), key(20, 1, 9), key(20, 2, 11), key(20, 3, 13)}
	for who, want := range map[uint32][]api.RealmKey{
		1: slices.Concat(ten[:1], fifteen, twenty[:1]), // was taken off 7 in the epochs 0; is in 5
		2: slices.Concat(ten, fifteen, twenty),
		3: slices.Concat(ten[:2], fifteen[:1], twenty),
		4: nil,
	} {
		if got := r.Keys(who); !reflect.DeepEqual(got, want) {
			t.Fatalf("Keys(%d): %+v, not %+v", who, got, want)
		}
		for realm := range uint32(30) {
			for epoch := range uint32(7) {
				at := slices.IndexFunc(want, func(k api.RealmKey) bool { return k.Realm == realm && k.Epoch == epoch })
				switch {
				case at >= 0:
					wantOpen(t, r, who, realm, epoch, want[at].Key)
				case who == 4:
					wantClosed(t, r, who, realm, epoch, api.ErrPrincipal)
				default:
					wantClosed(t, r, who, realm, epoch, api.ErrNoKey)
				}
			}
		}
	}
}

// P21.2, P4: wherever the draws end, the change comes to nothing, but for what was drawn ahead of the error.
func TestDrawsThatEnd(t *testing.T) {
	for _, mode := range []int{api.Real, api.Ideal} {
		need := needed(t, mode)
		for n := 0; n < need; n += 4 { // what is drawn at once is some times 4 bytes
			r, _, x := drawn(mode, n)
			p := newReplay(mode, n)
			e := api.OK
			for _, one := range told {
				if e = p.does(one.steps); e != api.OK {
					wantRefused(t, r, one.change, e)
					break
				}
				does(t, r, one.change)
			}
			if e != api.ErrEntropy || x.Left() != p.x.Left() || !same(all(r), p.boxes) {
				t.Fatalf("of %d: error %d, %d left, not %d; %s", n, e, x.Left(), p.x.Left(), short(all(r)))
			}
		}
	}
}

// needed is how many bytes all that is told draws.
func needed(t *testing.T, mode int) int {
	t.Helper()
	p := newReplay(mode, 10000)
	for _, one := range told {
		if e := p.does(one.steps); e != api.OK {
			t.Fatal(e)
		}
	}
	return 10000 - p.x.Left()
}

// wantRefused makes the change, and fails unless it is that error and all is as it was.
func wantRefused(t *testing.T, r *Ring, c api.Change, want api.Errno) {
	t.Helper()
	was := picture(r)
	if e := r.Do(c); e != want {
		t.Fatalf("%+v: error %d, not %d", c, e, want)
	}
	if now := picture(r); now != was {
		t.Fatalf("%+v changed\n%s to\n%s", c, short(was), short(now))
	}
}

// P21.3, P5: what is told may be left, and gone through again; it is what there was at the call.
func TestBoxesAgain(t *testing.T) {
	r, _, _ := drawn(api.Real, 10000)
	empty := r.Boxes()
	for _, one := range told {
		does(t, r, one.change)
	}
	want := all(r)
	boxes := r.Boxes()
	for n := range want {
		var got []api.Box
		for b := range boxes {
			got = append(got, b)
			if len(got) == n+1 {
				break
			}
		}
		if !reflect.DeepEqual(got, want[:n+1]) {
			t.Fatalf("the first %d: %s", n+1, short(got))
		}
	}
	n := 0
	for range boxes {
		does(t, r, revoke(7, 10), grant(7, 10))
		n++
	}
	if n != len(want) || !reflect.DeepEqual(slices.Collect(boxes), want) {
		t.Fatalf("%d told, not %d", n, len(want))
	}
	if got := all(r); len(got) <= len(want) || !reflect.DeepEqual(got[:len(want)], want) {
		t.Fatal("boxes were lost")
	}
	for range empty {
		t.Fatal("there was a box ahead of all changes")
	}
}
