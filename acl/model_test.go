package acl

import (
	"maps"
	"math"
	"slices"
	"testing"

	"tabularium/api"
	"tabularium/ring"
	"tabularium/suite"
	"tabularium/tape"
)

// pair is who and group, or group and realm, or realm and epoch.
type pair [2]uint32

// plain is a Model as the document's sentences tell it, which takes down all Readers behind each change.
type plain struct {
	who, group    map[uint32]bool
	epoch         map[uint32]uint32
	member, reads map[pair]bool
	was           map[pair]map[uint32]bool
}

func newPlain() *plain {
	return &plain{
		who: map[uint32]bool{}, group: map[uint32]bool{}, epoch: map[uint32]uint32{},
		member: map[pair]bool{}, reads: map[pair]bool{}, was: map[pair]map[uint32]bool{},
	}
}

// do is Do.
func (p *plain) do(c api.Change) api.Errno {
	e := p.change(c)
	for realm, epoch := range p.epoch {
		at := pair{realm, epoch}
		if p.was[at] == nil {
			p.was[at] = map[uint32]bool{}
		}
		for who := range p.who {
			if p.reader(who, realm) {
				p.was[at][who] = true
			}
		}
	}
	return e
}

func (p *plain) change(c api.Change) api.Errno {
	_, isRealm := p.epoch[c.Realm]
	switch {
	case c.Kind < 1 || c.Kind > 7:
		return api.ErrRange
	case c.Kind == api.AddPrincipal && p.who[c.Who]:
		return api.ErrPrincipal
	case (c.Kind == api.Enrol || c.Kind == api.Expel) && !p.who[c.Who]:
		return api.ErrPrincipal
	case c.Kind == api.AddRealm && isRealm:
		return api.ErrRealm
	case c.Kind == api.AddGroup && p.group[c.Group]:
		return api.ErrGroup
	case c.Kind > api.AddGroup && !p.group[c.Group]:
		return api.ErrGroup
	case (c.Kind == api.Grant || c.Kind == api.Revoke) && !isRealm:
		return api.ErrRealm
	}
	m, r := pair{c.Who, c.Group}, pair{c.Group, c.Realm}
	switch c.Kind {
	case api.AddPrincipal:
		p.who[c.Who] = true
	case api.AddGroup:
		p.group[c.Group] = true
	case api.AddRealm:
		p.epoch[c.Realm], p.reads[r] = 0, true
	case api.Enrol:
		p.member[m] = true
	case api.Grant:
		p.reads[r] = true
	case api.Expel:
		for realm := range p.epoch {
			if p.member[m] && p.reads[pair{c.Group, realm}] {
				p.epoch[realm]++
			}
		}
		p.member[m] = false
	case api.Revoke:
		if p.reads[r] {
			p.epoch[c.Realm]++
		}
		p.reads[r] = false
	}
	return api.OK
}

// reader says whether who is a member of a group that reads the realm, as it is now.
func (p *plain) reader(who, realm uint32) bool {
	for group := range p.group {
		if p.member[pair{who, group}] && p.reads[pair{group, realm}] {
			return true
		}
	}
	return false
}

// can says whether who is one of the Readers of that epoch or a later one.
func (p *plain) can(who, realm, epoch uint32) bool {
	for at, readers := range p.was {
		if at[0] == realm && at[1] >= epoch && readers[who] {
			return true
		}
	}
	return false
}

// wantAsPlain fails unless m answers all as p does.
func wantAsPlain(t *testing.T, m *Model, p *plain) {
	t.Helper()
	for _, a := range asked {
		want, has := p.epoch[a]
		if epoch, is := m.Epoch(a); epoch != want || is != has {
			t.Fatalf("realm %d: epoch %d, %t, not %d, %t", a, epoch, is, want, has)
		}
		for _, epoch := range epochs(m, a) {
			wantReaders(t, m, a, epoch, slices.Sorted(maps.Keys(p.was[pair{a, epoch}]))...)
		}
		for _, b := range asked {
			if m.Member(a, b) != p.member[pair{a, b}] || m.Reads(a, b) != p.reads[pair{a, b}] || m.Reader(a, b) != p.reader(a, b) {
				t.Fatalf("%d, %d: %t %t %t", a, b, m.Member(a, b), m.Reads(a, b), m.Reader(a, b))
			}
			for _, epoch := range epochs(m, b) {
				if m.Can(a, b, epoch) != p.can(a, b, epoch) {
					t.Fatalf("Can(%d, %d, %d): %t", a, b, epoch, m.Can(a, b, epoch))
				}
			}
		}
	}
}

// dice is draws for tests, always the same ones of a seed.
type dice struct{ at uint64 }

// roll is the next draw, from 0 to n - 1.
func (d *dice) roll(n int) int {
	d.at = d.at*6364136223846793005 + 1442695040888963407
	return int(d.at >> 33 % uint64(n))
}

// pick is one of these, drawn.
func pick[T any](d *dice, l ...T) T {
	return l[d.roll(len(l))]
}

// change is one of any kind, most of them in few groups and realms.
func (d *dice) change() api.Change {
	return api.Change{
		Kind:  pick(d, 0, 8, 1, 1, 2, 2, 3, 3, 4, 4, 4, 4, 4, 5, 5, 5, 6, 6, 6, 6, 7, 7, 7),
		Who:   pick[uint32](d, 1, 2, 3, math.MaxUint32),
		Group: pick[uint32](d, 0, 1, 2),
		Realm: pick[uint32](d, 1, 2, 70),
	}
}

// P22.1 to P22.3: drawn runs, held against the plain Model behind each change.
func TestDrawnRuns(t *testing.T) {
	count := map[api.Errno]int{}
	for seed := range uint64(60) {
		d, m, p := &dice{at: seed}, New(), newPlain()
		for range 120 {
			c := d.change()
			got, want := m.Do(c), p.do(c)
			if got != want {
				t.Fatalf("seed %d, %+v: error %d, not %d", seed, c, got, want)
			}
			count[got]++
			wantAsPlain(t, m, p)
		}
	}
	for _, e := range []api.Errno{api.OK, api.ErrRange, api.ErrPrincipal, api.ErrGroup, api.ErrRealm} {
		if count[e] < 100 {
			t.Fatalf("they come to %v", count)
		}
	}
}

// P22.4: behind each change of a drawn run, who was a Reader and is none any more isn't one of a new epoch's.
func TestRevokedInDrawnRuns(t *testing.T) {
	ended := 0
	for seed := range uint64(200) {
		d, m := &dice{at: seed + 500}, New()
		for range 150 {
			was := map[pair]uint32{} // the epoch in which who reads the realm
			for _, who := range asked {
				for _, realm := range asked {
					if m.Reader(who, realm) {
						was[pair{who, realm}], _ = m.Epoch(realm)
					}
				}
			}
			c := d.change()
			m.Do(c)
			for at, then := range was {
				now, _ := m.Epoch(at[1])
				if m.Reader(at[0], at[1]) {
					continue
				}
				ended++
				if now != then+1 || slices.Contains(slices.Collect(m.Readers(at[1], now)), at[0]) || m.Can(at[0], at[1], now) || !m.Can(at[0], at[1], then) {
					t.Fatalf("seed %d, %+v: %d at %d", seed, c, at, now)
				}
			}
		}
	}
	if ended < 1000 {
		t.Fatalf("%d were taken off", ended)
	}
}

// G3: a Ring of the same changes opens just what Can says, and has the same errors and epochs.
func TestAsARing(t *testing.T) {
	opened := 0
	for seed := range uint64(40) {
		d, m := &dice{at: seed + 1000}, New()
		draws := make([]byte, 100000)
		for i := range draws {
			draws[i] = byte(d.roll(256))
		}
		r := ring.New(suite.New(pick(d, api.Real, api.Ideal), tape.New(draws)))
		for range 120 {
			c := d.change()
			if got, want := m.Do(c), r.Do(c); got != want {
				t.Fatalf("seed %d, %+v: error %d, not %d", seed, c, got, want)
			}
		}
		for _, realm := range asked {
			epoch, is := m.Epoch(realm)
			if want, has := r.Epoch(realm); epoch != want || is != has {
				t.Fatalf("seed %d, realm %d: epoch %d, %t", seed, realm, epoch, is)
			}
			for _, who := range asked {
				for _, epoch := range epochs(m, realm) {
					_, e := r.Open(who, realm, epoch)
					if m.Can(who, realm, epoch) != (e == api.OK) {
						t.Fatalf("seed %d: Can(%d, %d, %d): %t, error %d", seed, who, realm, epoch, e != api.OK, e)
					}
					if e == api.OK {
						opened++
					}
				}
			}
		}
	}
	if opened < 500 {
		t.Fatalf("they open %d", opened)
	}
}
