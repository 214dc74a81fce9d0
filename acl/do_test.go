package acl

import (
	"math"
	"testing"

	"tabularium/api"
)

// wantRefused makes the change, and fails unless it is that error and all is as it was.
func wantRefused(t *testing.T, m *Model, c api.Change, want api.Errno) {
	t.Helper()
	was := picture(m)
	if e := m.Do(c); e != want {
		t.Fatalf("%+v: error %d, not %d", c, e, want)
	}
	if picture(m) != was {
		t.Fatalf("%+v changed something", c)
	}
}

// few is a Model of two principals, two groups and a realm.
func few(t *testing.T) *Model {
	t.Helper()
	return made(t, addPrincipal(1), addPrincipal(2), addGroup(3), addGroup(4), addRealm(3, 5), enrol(1, 3))
}

// refused is the error of each kind, by whether there is Who (then 4 more), Group (2 more) and Realm (1 more).
var refused = map[int][8]api.Errno{
	api.AddPrincipal: {4: api.ErrPrincipal, 5: api.ErrPrincipal, 6: api.ErrPrincipal, 7: api.ErrPrincipal},
	api.AddGroup:     {2: api.ErrGroup, 3: api.ErrGroup, 6: api.ErrGroup, 7: api.ErrGroup},
	api.AddRealm:     {0: api.ErrGroup, 1: api.ErrRealm, 3: api.ErrRealm, 4: api.ErrGroup, 5: api.ErrRealm, 7: api.ErrRealm},
	api.Enrol:        {api.ErrPrincipal, api.ErrPrincipal, api.ErrPrincipal, api.ErrPrincipal, api.ErrGroup, api.ErrGroup, api.OK, api.OK},
	api.Expel:        {api.ErrPrincipal, api.ErrPrincipal, api.ErrPrincipal, api.ErrPrincipal, api.ErrGroup, api.ErrGroup, api.OK, api.OK},
	api.Grant:        {api.ErrGroup, api.ErrGroup, api.ErrRealm, api.OK, api.ErrGroup, api.ErrGroup, api.ErrRealm, api.OK},
	api.Revoke:       {api.ErrGroup, api.ErrGroup, api.ErrRealm, api.OK, api.ErrGroup, api.ErrGroup, api.ErrRealm, api.OK},
}

// P22.1, P4: each kind's errors, in the order in which chapter 21 tells them; all is as it was.
// Of the numbers that aren't there one is another thing's and one is nothing's.
func TestErrors(t *testing.T) {
	for kind, errors := range refused {
		for i, want := range errors {
			for _, who := range [][]uint32{{3, 9}, {1, 2}}[i/4] {
				for _, group := range [][]uint32{{1, 5, 9}, {3, 4}}[i/2%2] {
					for _, realm := range [][]uint32{{3, 9}, {5}}[i%2] {
						m, c := few(t), api.Change{Kind: kind, Who: who, Group: group, Realm: realm}
						if want != api.OK {
							wantRefused(t, m, c, want)
						} else {
							does(t, m, c)
						}
					}
				}
			}
		}
	}
}

// P22.1: there are no other kinds.
func TestOtherKinds(t *testing.T) {
	m := few(t)
	for _, kind := range []int{math.MinInt, -1, 0, 8, 9, 256 + 1, 1<<32 + 1, math.MaxInt} {
		wantRefused(t, m, api.Change{Kind: kind, Who: 1, Group: 3, Realm: 5}, api.ErrRange)
		wantRefused(t, m, api.Change{Kind: kind, Who: 9, Group: 9, Realm: 9}, api.ErrRange)
	}
	does(t, m, addPrincipal(9), addGroup(9), addRealm(9, 9)) // nothing of them was there
}

// P22.1: what is so already stays so, without an error or a next epoch.
func TestNothingToDo(t *testing.T) {
	m := few(t)
	for range 2 {
		for _, c := range []api.Change{enrol(1, 3), expel(2, 3), expel(1, 4), grant(3, 5), revoke(4, 5)} {
			wantRefused(t, m, c, api.OK)
		}
	}
	does(t, m, expel(1, 3), revoke(3, 5))
	for _, c := range []api.Change{expel(1, 3), revoke(3, 5), expel(2, 3), revoke(4, 5)} {
		wantRefused(t, m, c, api.OK)
	}
	wantEpoch(t, m, 5, 2)
}

// P22.1: a kind looks at no numbers but its own.
func TestOtherNumbers(t *testing.T) {
	plain, other := New(), New()
	for _, c := range []api.Change{
		addPrincipal(1), addPrincipal(2), addGroup(1), addGroup(2), addRealm(1, 1),
		enrol(1, 1), enrol(2, 1), grant(2, 1), enrol(1, 2), expel(2, 1), revoke(1, 1),
	} {
		does(t, plain, c)
		switch c.Kind {
		case api.AddPrincipal:
			c.Group, c.Realm = 70, 70
		case api.AddGroup:
			c.Who, c.Realm = 70, 70
		case api.AddRealm, api.Grant, api.Revoke:
			c.Who = 70
		default:
			c.Realm = 70
		}
		does(t, other, c)
		if picture(plain) != picture(other) {
			t.Fatalf("%+v", c)
		}
	}
}

// P22.1: numbers of principals, groups and realms don't meet, and any number may be one.
func TestNumbers(t *testing.T) {
	for _, n := range []uint32{0, 1, math.MaxInt32, math.MaxUint32} {
		m := made(t, addPrincipal(n), addGroup(n), addRealm(n, n), enrol(n, n))
		wantReaders(t, m, n, 0, n)
		does(t, m, expel(n, n), enrol(n, n), revoke(n, n), grant(n, n))
		wantEpoch(t, m, n, 2)
		wantCan(t, m, n, n, 3)
		wantCan(t, m, n+1, n, 0)
		wantCan(t, m, n, n+1, 0)
		for epoch := range uint32(3) {
			wantReaders(t, m, n, epoch, n)
		}
		wantReaders(t, m, n, 3)
		if !m.Member(n, n) || !m.Reads(n, n) || !m.Reader(n, n) || m.Member(n, n+1) || m.Reads(n+1, n) || m.Reader(n, n+1) {
			t.Fatal(n)
		}
	}
}

// P22.1: an Expel turns all that the group reads, whoever reads it still; a Revoke turns its realm alone.
func TestTurned(t *testing.T) {
	m := made(t,
		addPrincipal(1), addPrincipal(2), addGroup(1), addGroup(2),
		addRealm(1, 1), addRealm(1, 2), addRealm(2, 3), grant(2, 1), enrol(1, 1), enrol(1, 2),
	)
	turned := func(one, two, three uint32) {
		t.Helper()
		wantEpoch(t, m, 1, one)
		wantEpoch(t, m, 2, two)
		wantEpoch(t, m, 3, three)
	}
	turned(0, 0, 0)
	does(t, m, expel(1, 1))
	turned(1, 1, 0)
	does(t, m, expel(1, 2))
	turned(2, 1, 1)
	does(t, m, revoke(1, 1))
	turned(3, 1, 1) // of a group without members, too
	does(t, m, enrol(1, 1), expel(1, 1))
	turned(3, 2, 1)
	does(t, m, revoke(2, 1), grant(1, 1), grant(2, 2), revoke(2, 2))
	turned(4, 3, 1)
}

// P22.1: a realm may be left with no group that reads it, and a group with nothing that it reads.
func TestLeftAlone(t *testing.T) {
	m := made(t, addPrincipal(1), addGroup(1), addRealm(1, 1), revoke(1, 1), enrol(1, 1))
	wantEpoch(t, m, 1, 1)
	wantReaders(t, m, 1, 0)
	wantReaders(t, m, 1, 1)
	does(t, m, expel(1, 1))
	wantEpoch(t, m, 1, 1)
	does(t, m, addGroup(2), enrol(1, 2), grant(2, 1))
	wantReaders(t, m, 1, 1, 1)
	wantCan(t, m, 1, 1, 2)
}
