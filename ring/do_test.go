package ring

import (
	"math"
	"testing"

	"tabularium/api"
)

// P21.2, P4: each kind's errors, in the order in which they are told; all is as it was, and nothing is drawn.
func TestErrors(t *testing.T) {
	for _, mode := range []int{api.Real, api.Ideal} {
		r, _, x := drawn(mode, 10000)
		does(t, r, addPrincipal(1), addPrincipal(2), addGroup(3), addGroup(4), addRealm(3, 5), enrol(1, 3))
		left := x.Left()
		for _, one := range []struct {
			change api.Change
			want   api.Errno
		}{
			{addPrincipal(1), api.ErrPrincipal},
			{addPrincipal(2), api.ErrPrincipal},
			{addGroup(3), api.ErrGroup},
			{addGroup(4), api.ErrGroup},
			{addRealm(3, 5), api.ErrRealm},
			{addRealm(4, 5), api.ErrRealm},
			{addRealm(9, 5), api.ErrRealm}, // and no group
			{addRealm(9, 6), api.ErrGroup},
			{addRealm(1, 6), api.ErrGroup}, // a principal is no group
			{addRealm(5, 6), api.ErrGroup},
			{enrol(9, 3), api.ErrPrincipal},
			{enrol(9, 9), api.ErrPrincipal}, // and no group
			{enrol(3, 3), api.ErrPrincipal},
			{enrol(1, 9), api.ErrGroup},
			{enrol(1, 1), api.ErrGroup},
			{expel(9, 3), api.ErrPrincipal},
			{expel(9, 9), api.ErrPrincipal},
			{expel(1, 9), api.ErrGroup},
			{expel(1, 5), api.ErrGroup},
			{grant(9, 5), api.ErrGroup},
			{grant(9, 9), api.ErrGroup}, // and no realm
			{grant(1, 5), api.ErrGroup},
			{grant(3, 9), api.ErrRealm},
			{grant(3, 3), api.ErrRealm},
			{revoke(9, 5), api.ErrGroup},
			{revoke(9, 9), api.ErrGroup},
			{revoke(3, 9), api.ErrRealm},
			{revoke(3, 4), api.ErrRealm},
		} {
			wantRefused(t, r, one.change, one.want)
		}
		for _, kind := range []int{math.MinInt, -1, 0, 8, 9, 256 + 1, 1<<32 + 1, math.MaxInt} {
			wantRefused(t, r, api.Change{Kind: kind, Who: 1, Group: 3, Realm: 5}, api.ErrRange)
			wantRefused(t, r, api.Change{Kind: kind, Who: 9, Group: 9, Realm: 9}, api.ErrRange)
		}
		if x.Left() != left {
			t.Fatalf("%d were drawn", left-x.Left())
		}
	}
}

// P21.2: what is so already stays so, without a box, a draw or an error.
func TestNothingToDo(t *testing.T) {
	for _, mode := range []int{api.Real, api.Ideal} {
		r, _, x := drawn(mode, 10000)
		does(t, r, addPrincipal(1), addPrincipal(2), addGroup(3), addGroup(4), addRealm(3, 5), enrol(1, 3))
		left := x.Left()
		nothing := []api.Change{enrol(1, 3), expel(2, 3), expel(1, 4), grant(3, 5), revoke(4, 5)}
		for range 2 {
			for _, c := range nothing {
				wantRefused(t, r, c, api.OK)
			}
		}
		if x.Left() != left {
			t.Fatalf("%d were drawn", left-x.Left())
		}
		does(t, r, expel(1, 3), revoke(3, 5))
		left = x.Left()
		for _, c := range []api.Change{expel(1, 3), revoke(3, 5), expel(2, 3), revoke(4, 5)} {
			wantRefused(t, r, c, api.OK)
		}
		if x.Left() != left {
			t.Fatalf("%d were drawn", left-x.Left())
		}
	}
}

// P21.2: a kind looks at no numbers but its own.
func TestOtherNumbers(t *testing.T) {
	script := []api.Change{
		addPrincipal(1), addPrincipal(2), addGroup(1), addGroup(2), addRealm(1, 1),
		enrol(1, 1), enrol(2, 1), grant(2, 1), enrol(1, 2), expel(2, 1), revoke(1, 1),
	}
	plain, _, _ := drawn(api.Ideal, 10000)
	other, _, _ := drawn(api.Ideal, 10000)
	does(t, plain, script...)
	for _, c := range script {
		switch c.Kind {
		case api.AddPrincipal:
			c.Group, c.Realm = 99, 99
		case api.AddGroup:
			c.Who, c.Realm = 99, 99
		case api.AddRealm, api.Grant, api.Revoke:
			c.Who = 99
		default:
			c.Realm = 99
		}
		does(t, other, c)
	}
	if picture(plain) != picture(other) {
		t.Fatalf("%s\nand %s", short(picture(plain)), short(picture(other)))
	}
}

// P21.2: numbers of principals, groups and realms don't meet, and any number may be one.
func TestNumbers(t *testing.T) {
	for _, n := range []uint32{0, 1, math.MaxInt32, math.MaxUint32} {
		r, _, _ := drawn(api.Real, 10000)
		does(t, r, addPrincipal(n), addGroup(n), addRealm(n, n), enrol(n, n))
		first, e := r.Open(n, n, 0)
		if e != api.OK {
			t.Fatal(e)
		}
		does(t, r, expel(n, n), enrol(n, n), revoke(n, n), grant(n, n))
		wantOpen(t, r, n, n, 0, first)
		for epoch := range uint32(3) {
			if _, e := r.Open(n, n, epoch); e != api.OK {
				t.Fatalf("epoch %d: error %d", epoch, e)
			}
		}
		wantClosed(t, r, n, n, 3, api.ErrNoKey)
		wantClosed(t, r, n, n, math.MaxUint32, api.ErrNoKey)
		wantClosed(t, r, n, n+1, 0, api.ErrNoKey)
		wantClosed(t, r, n+1, n, 0, api.ErrPrincipal)
	}
}

// P21.2: behind an error all goes on as if it hadn't been, but for the draws.
func TestBehindErrors(t *testing.T) {
	for _, mode := range []int{api.Real, api.Ideal} {
		plain, _, _ := drawn(mode, 10000)
		other, _, _ := drawn(mode, 10000)
		for _, one := range told {
			does(t, plain, one.change)
			for _, c := range []api.Change{{Kind: 8}, addPrincipal(3), addRealm(98, 99), enrol(99, 7), expel(3, 99), grant(99, 20), revoke(7, 99)} {
				if e := other.Do(c); e == api.OK && c != addPrincipal(3) {
					t.Fatalf("%+v: OK", c)
				}
			}
			if one.change != addPrincipal(3) {
				does(t, other, one.change)
			}
		}
		if picture(plain) != picture(other) {
			t.Fatalf("%s\nand %s", short(picture(plain)), short(picture(other)))
		}
	}
}

// P21.2: who joins a group behind a Revoke doesn't open what it read once; who was there does.
func TestJoiningBehindARevoke(t *testing.T) {
	for _, mode := range []int{api.Real, api.Ideal} {
		r, _, _ := drawn(mode, 10000)
		does(t, r, addPrincipal(1), addPrincipal(2), addGroup(1), addRealm(1, 1), addRealm(1, 2), enrol(1, 1))
		was, _ := r.Open(1, 1, 0)
		does(t, r, revoke(1, 1), enrol(2, 1))
		wantOpen(t, r, 1, 1, 0, was)
		wantClosed(t, r, 2, 1, 0, api.ErrNoKey)
		wantClosed(t, r, 1, 1, 1, api.ErrNoKey)
		wantClosed(t, r, 2, 1, 1, api.ErrNoKey)
		still, _ := r.Open(1, 2, 0)
		wantOpen(t, r, 2, 2, 0, still) // that one it still reads
		does(t, r, grant(1, 1))
		wantOpen(t, r, 2, 1, 0, was) // a reader from epoch 1 on opens what is ahead of it
	}
}
