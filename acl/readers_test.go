package acl

import (
	"math"
	"slices"
	"testing"
)

// P22.3: of an epoch, those who came while it was the realm's, and those who were Readers already; rising.
func TestReaders(t *testing.T) {
	m := made(t,
		addPrincipal(9), addPrincipal(math.MaxUint32), addPrincipal(0), addPrincipal(5), addPrincipal(70),
		addGroup(1), addGroup(2), enrol(9, 1), enrol(math.MaxUint32, 1), addRealm(1, 1), enrol(0, 1),
	)
	wantReaders(t, m, 1, 0, 0, 9, math.MaxUint32)
	wantReaders(t, m, 1, 1)
	does(t, m, enrol(5, 2), expel(9, 1))
	wantReaders(t, m, 1, 0, 0, 9, math.MaxUint32)
	wantReaders(t, m, 1, 1, 0, math.MaxUint32)
	does(t, m, grant(2, 1))
	wantReaders(t, m, 1, 1, 0, 5, math.MaxUint32)
	does(t, m, revoke(1, 1), enrol(70, 1))
	wantReaders(t, m, 1, 0, 0, 9, math.MaxUint32)
	wantReaders(t, m, 1, 1, 0, 5, math.MaxUint32)
	wantReaders(t, m, 1, 2, 5)
	does(t, m, enrol(9, 2), expel(5, 2), enrol(70, 2))
	wantReaders(t, m, 1, 2, 5, 9)
	wantReaders(t, m, 1, 3, 9, 70)
	for _, epoch := range []uint32{4, 5, math.MaxUint32 - 1, math.MaxUint32} {
		wantReaders(t, m, 1, epoch)
	}
	for who, until := range map[uint32]uint32{0: 2, 5: 3, 9: 4, 70: 4, math.MaxUint32: 2, 1: 0} {
		wantCan(t, m, who, 1, until)
	}
}

// P22.3: who comes, goes and comes again is one of the Readers of the epochs that they were there, and of no others.
func TestComingAgain(t *testing.T) {
	m := made(t, addPrincipal(1), addPrincipal(2), addGroup(1), addRealm(1, 1), enrol(1, 1), enrol(2, 1))
	does(t, m, expel(1, 1)) // epoch 1
	does(t, m, enrol(1, 1)) // in the next one at once
	does(t, m, expel(1, 1), expel(2, 1), enrol(2, 1), expel(2, 1), enrol(2, 1))
	wantEpoch(t, m, 1, 4)
	wantCan(t, m, 1, 1, 2)
	does(t, m, enrol(1, 1)) // and behind two that they missed
	for epoch, want := range [][]uint32{{1, 2}, {1, 2}, {2}, {2}, {1, 2}, nil} {
		wantReaders(t, m, 1, uint32(epoch), want...)
	}
	wantCan(t, m, 1, 1, 5)
	wantCan(t, m, 2, 1, 5)
	does(t, m, expel(1, 1), expel(2, 1))
	wantReaders(t, m, 1, 4, 1, 2)
	wantReaders(t, m, 1, 5, 2)
	wantReaders(t, m, 1, 6)
	wantCan(t, m, 1, 1, 5)
	wantCan(t, m, 2, 1, 6)
	wantReaders(t, m, 1, 2, 2)
}

// P22.3: Can is so of the epochs ahead of a Reader's, and of what they missed.
func TestCanOfEarlierEpochs(t *testing.T) {
	m := made(t, addPrincipal(1), addPrincipal(2), addGroup(1), addRealm(1, 1), enrol(1, 1))
	for range 5 {
		does(t, m, expel(1, 1), enrol(1, 1))
	}
	wantCan(t, m, 2, 1, 0)
	does(t, m, enrol(2, 1))
	wantCan(t, m, 2, 1, 6)
	for epoch := range uint32(5) {
		wantReaders(t, m, 1, epoch, 1)
	}
	wantReaders(t, m, 1, 5, 1, 2)
}

// P22.4: whoever is taken off, in either way, is no Reader of the next epoch till they are one again.
func TestRevoked(t *testing.T) {
	m := made(t,
		addPrincipal(1), addPrincipal(2), addPrincipal(3), addGroup(1), addGroup(2), addRealm(1, 1), addRealm(1, 2), grant(2, 1),
		enrol(1, 1), enrol(2, 1), enrol(2, 2), enrol(3, 2),
	)
	does(t, m, expel(1, 1))
	for _, realm := range []uint32{1, 2} {
		wantEpoch(t, m, realm, 1)
		wantCan(t, m, 1, realm, 1)
		if m.Reader(1, realm) {
			t.Fatal(realm)
		}
	}
	wantReaders(t, m, 1, 1, 2, 3)
	wantReaders(t, m, 2, 1, 2)
	does(t, m, expel(2, 1)) // a Reader of realm 1 by the other group, not of realm 2
	wantReaders(t, m, 1, 2, 2, 3)
	wantReaders(t, m, 2, 2)
	wantCan(t, m, 2, 1, 3)
	wantCan(t, m, 2, 2, 2)
	does(t, m, enrol(3, 1), revoke(2, 1)) // 3 is a Reader by the group that is left, 2 isn't
	wantEpoch(t, m, 1, 3)
	wantReaders(t, m, 1, 2, 2, 3)
	wantReaders(t, m, 1, 3, 3)
	wantCan(t, m, 2, 1, 3)
	wantCan(t, m, 3, 1, 4)
	if m.Reader(2, 1) || !m.Reader(3, 1) || !m.Member(2, 2) {
		t.Fatal("Revoke")
	}
	does(t, m, grant(2, 1))
	wantEpoch(t, m, 1, 3)
	wantReaders(t, m, 1, 3, 2, 3)
	wantCan(t, m, 2, 1, 4)
}

// P22.4: of many groups any one is enough to stay, whichever it is.
func TestStayingByAnyGroup(t *testing.T) {
	const groups = 8
	for stays := range uint32(groups) {
		m := made(t, addPrincipal(1), addGroup(0), addRealm(0, 1), enrol(1, 0))
		for group := uint32(1); group < groups; group++ {
			does(t, m, addGroup(group), grant(group, 1), enrol(1, group))
		}
		for group := range uint32(groups) {
			switch {
			case group == stays:
			case group%2 == 0:
				does(t, m, expel(1, group))
			default:
				does(t, m, revoke(group, 1))
			}
		}
		wantEpoch(t, m, 1, groups-1)
		wantReaders(t, m, 1, groups-1, 1)
		wantCan(t, m, 1, 1, groups)
		does(t, m, revoke(stays, 1))
		wantReaders(t, m, 1, groups)
		wantCan(t, m, 1, 1, groups)
	}
}

// P22.3, P5: what is told may be left, and gone through again; it is what there was at the call.
func TestReadersAgain(t *testing.T) {
	m := made(t, addGroup(1), addRealm(1, 1))
	none := m.Readers(1, 0)
	for who := range uint32(10) {
		does(t, m, addPrincipal(who), enrol(who, 1))
	}
	want := []uint32{0, 1, 2, 3, 4, 5, 6, 7, 8, 9}
	readers := m.Readers(1, 0)
	for n := range want {
		var got []uint32
		for who := range readers {
			got = append(got, who)
			if len(got) == n+1 {
				break
			}
		}
		if !slices.Equal(got, want[:n+1]) {
			t.Fatalf("the first %d: %d", n+1, got)
		}
	}
	for who := range readers {
		does(t, m, addPrincipal(who+10), enrol(who+10, 1))
	}
	if got := slices.Collect(readers); !slices.Equal(got, want) {
		t.Fatalf("%d", got)
	}
	for who := range none {
		t.Fatalf("%d was there ahead of all", who)
	}
	if got := slices.Collect(m.Readers(1, 0)); len(got) != 20 || !slices.IsSorted(got) {
		t.Fatalf("%d", got)
	}
}

// P3: asking changes nothing, also of numbers that there aren't.
func TestAsking(t *testing.T) {
	m := few(t)
	was := picture(m)
	for range 3 {
		if picture(m) != was {
			t.Fatal("it changed")
		}
	}
	does(t, m, addPrincipal(9), addGroup(70), addRealm(70, 9))
	wantEpoch(t, m, 9, 0)
	wantReaders(t, m, 9, 0)
}

// P22.3: many epochs, and many Readers who stay in all of them.
func TestManyEpochs(t *testing.T) {
	const readers, turns = 1000, 1000
	m := made(t, addGroup(1), addGroup(2), addRealm(1, 1))
	var want []uint32
	for who := range uint32(readers) {
		does(t, m, addPrincipal(who), enrol(who, 1))
		want = append(want, who)
	}
	for range turns {
		does(t, m, grant(2, 1), revoke(2, 1))
	}
	wantEpoch(t, m, 1, turns)
	for _, epoch := range []uint32{0, 1, turns / 2, turns - 1, turns} {
		wantReaders(t, m, 1, epoch, want...)
	}
	wantReaders(t, m, 1, turns+1)
	wantCan(t, m, readers-1, 1, turns+1)
}
