package acl

import (
	"fmt"
	"math"
	"slices"
	"testing"

	"tabularium/api"
)

// The changes, by what they need.

func addPrincipal(who uint32) api.Change { return api.Change{Kind: api.AddPrincipal, Who: who} }

func addGroup(group uint32) api.Change { return api.Change{Kind: api.AddGroup, Group: group} }

func addRealm(group, realm uint32) api.Change {
	return api.Change{Kind: api.AddRealm, Group: group, Realm: realm}
}

func enrol(who, group uint32) api.Change {
	return api.Change{Kind: api.Enrol, Who: who, Group: group}
}

func expel(who, group uint32) api.Change {
	return api.Change{Kind: api.Expel, Who: who, Group: group}
}

func grant(group, realm uint32) api.Change {
	return api.Change{Kind: api.Grant, Group: group, Realm: realm}
}

func revoke(group, realm uint32) api.Change {
	return api.Change{Kind: api.Revoke, Group: group, Realm: realm}
}

// does makes the changes, and fails unless each of them is OK.
func does(t *testing.T, m *Model, changes ...api.Change) {
	t.Helper()
	for _, c := range changes {
		if e := m.Do(c); e != api.OK {
			t.Fatalf("%+v: error %d", c, e)
		}
	}
}

// made is a Model of these changes.
func made(t *testing.T, changes ...api.Change) *Model {
	t.Helper()
	m := New()
	does(t, m, changes...)
	return m
}

// asked is the numbers for which tests ask.
var asked = []uint32{0, 1, 2, 3, 4, 5, 9, 70, math.MaxUint32}

// epochs is those of the realm, and some above them.
func epochs(m *Model, realm uint32) []uint32 {
	latest, _ := m.Epoch(realm)
	l := []uint32{latest + 1, latest + 2, math.MaxInt32, math.MaxUint32 - 1, math.MaxUint32}
	for epoch := range latest + 1 {
		l = append(l, epoch)
	}
	return l
}

// picture is all that m answers, of the numbers for which tests ask.
func picture(m *Model) string {
	var out []byte
	for _, a := range asked {
		epoch, is := m.Epoch(a)
		out = fmt.Appendln(out, a, "epoch", epoch, is)
		for _, b := range asked {
			out = fmt.Appendln(out, a, b, m.Member(a, b), m.Reads(a, b), m.Reader(a, b))
		}
		for _, epoch := range epochs(m, a) {
			out = fmt.Appendln(out, a, epoch, slices.Collect(m.Readers(a, epoch)))
			for _, who := range asked {
				out = fmt.Appendln(out, who, m.Can(who, a, epoch))
			}
		}
	}
	return string(out)
}

// wantEpoch fails unless there is the realm, and this is its epoch.
func wantEpoch(t *testing.T, m *Model, realm, want uint32) {
	t.Helper()
	if epoch, is := m.Epoch(realm); epoch != want || !is {
		t.Fatalf("realm %d: epoch %d, %t, not %d", realm, epoch, is, want)
	}
}

// wantReaders fails unless these are the Readers of that epoch.
func wantReaders(t *testing.T, m *Model, realm, epoch uint32, want ...uint32) {
	t.Helper()
	if got := slices.Collect(m.Readers(realm, epoch)); !slices.Equal(got, want) {
		t.Fatalf("Readers(%d, %d): %d, not %d", realm, epoch, got, want)
	}
}

// wantCan fails unless Can is so of epochs 0 to below until alone.
func wantCan(t *testing.T, m *Model, who, realm, until uint32) {
	t.Helper()
	for _, epoch := range epochs(m, realm) {
		if m.Can(who, realm, epoch) != (epoch < until) {
			t.Fatalf("Can(%d, %d, %d): %t", who, realm, epoch, epoch >= until)
		}
	}
}

// wantNobody fails unless m has nobody and nothing.
func wantNobody(t *testing.T, m *Model) {
	t.Helper()
	for _, a := range asked {
		if epoch, is := m.Epoch(a); epoch != 0 || is {
			t.Fatalf("realm %d: epoch %d, %t", a, epoch, is)
		}
		for _, b := range asked {
			if m.Member(a, b) || m.Reads(a, b) || m.Reader(a, b) {
				t.Fatalf("%d %d: %t %t %t", a, b, m.Member(a, b), m.Reads(a, b), m.Reader(a, b))
			}
			wantReaders(t, m, a, b)
			for _, epoch := range asked {
				if m.Can(a, b, epoch) {
					t.Fatalf("Can(%d, %d, %d)", a, b, epoch)
				}
			}
		}
	}
}

// P22.1: nobody and nothing. Example 1: Can of nobody.
func TestNew(t *testing.T) {
	wantNobody(t, New())
	a, b := New(), New()
	does(t, a, addPrincipal(1), addGroup(1), addRealm(1, 1), enrol(1, 1))
	wantNobody(t, b)
	does(t, b, addPrincipal(1))
}

// P22.3, P1: a Model that nobody made has nobody, and refuses every change.
func TestNobodyMade(t *testing.T) {
	var zero Model
	for _, m := range []*Model{nil, &zero, {}} {
		for _, c := range []api.Change{
			{}, addPrincipal(1), addGroup(1), addRealm(1, 1), enrol(1, 1), expel(1, 1), grant(1, 1), revoke(1, 1), {Kind: 8}, {Kind: math.MinInt},
		} {
			if e := m.Do(c); e != api.ErrRange {
				t.Fatalf("%+v: error %d", c, e)
			}
		}
		wantNobody(t, m)
	}
}

// P22.1 to P22.3: what stands behind each kind of change.
func TestEachKind(t *testing.T) {
	m := New()
	does(t, m, addPrincipal(1))
	wantNobody(t, m)
	does(t, m, addGroup(2))
	wantNobody(t, m)
	does(t, m, addRealm(2, 3))
	wantEpoch(t, m, 3, 0)
	if !m.Reads(2, 3) || m.Reads(3, 2) || m.Member(1, 2) || m.Reader(1, 3) {
		t.Fatal("AddRealm")
	}
	wantReaders(t, m, 3, 0)
	wantCan(t, m, 1, 3, 0)
	does(t, m, enrol(1, 2))
	wantEpoch(t, m, 3, 0)
	if !m.Member(1, 2) || m.Member(2, 1) || !m.Reader(1, 3) || m.Reader(3, 1) || m.Reader(1, 2) {
		t.Fatal("Enrol")
	}
	wantReaders(t, m, 3, 0, 1)
	wantCan(t, m, 1, 3, 1)
	does(t, m, expel(1, 2))
	wantEpoch(t, m, 3, 1)
	if m.Member(1, 2) || m.Reader(1, 3) || !m.Reads(2, 3) {
		t.Fatal("Expel")
	}
	wantReaders(t, m, 3, 0, 1)
	wantReaders(t, m, 3, 1)
	wantCan(t, m, 1, 3, 1)
	does(t, m, enrol(1, 2), revoke(2, 3))
	wantEpoch(t, m, 3, 2)
	if !m.Member(1, 2) || m.Reader(1, 3) || m.Reads(2, 3) {
		t.Fatal("Revoke")
	}
	wantReaders(t, m, 3, 1, 1)
	wantReaders(t, m, 3, 2)
	wantCan(t, m, 1, 3, 2)
	does(t, m, grant(2, 3))
	wantEpoch(t, m, 3, 2)
	if !m.Reader(1, 3) || !m.Reads(2, 3) {
		t.Fatal("Grant")
	}
	wantReaders(t, m, 3, 2, 1)
	wantCan(t, m, 1, 3, 3)
}

// P22.2: as it is now, of two groups that read one realm and one group that reads two.
func TestNow(t *testing.T) {
	m := made(t,
		addPrincipal(1), addPrincipal(2), addPrincipal(3), addGroup(1), addGroup(2),
		addRealm(1, 1), addRealm(1, 2), grant(2, 2), enrol(1, 1), enrol(2, 2), enrol(3, 1), enrol(3, 2),
	)
	for _, one := range []struct {
		who, group, realm      uint32
		member, reads, readsIt bool
	}{
		{1, 1, 1, true, true, true},
		{1, 2, 2, false, true, true},
		{2, 1, 1, false, true, false},
		{2, 2, 2, true, true, true},
		{3, 1, 2, true, true, true},
		{3, 2, 1, true, false, true},
		{4, 1, 1, false, true, false}, // nobody
		{1, 3, 2, false, false, true}, // no group
		{1, 1, 3, true, false, false}, // no realm
	} {
		if m.Member(one.who, one.group) != one.member || m.Reads(one.group, one.realm) != one.reads || m.Reader(one.who, one.realm) != one.readsIt {
			t.Errorf("%+v", one)
		}
	}
}
