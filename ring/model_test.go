package ring

import (
	"bytes"
	"maps"
	"math"
	"reflect"
	"slices"
	"testing"

	"tabularium/api"
	"tabularium/suite"
	"tabularium/tape"
)

// model is a Ring as the document's sentences tell it; each change is made on a copy, which is kept if there is no error.
type model struct {
	s                      *suite.Suite
	secrets                map[uint32]api.Key
	groupEpoch, realmEpoch map[uint32]uint32
	groupKey, realmKey     map[uint32]api.Key
	member, reads          map[[2]uint32]bool // who and group; group and realm
	boxes                  []api.Box
	// was has who, realm and epoch, if who was a reader then; keys has the keys of all realms and epochs.
	was  map[[3]uint32]bool
	keys map[[2]uint32]api.Key
}

func newModel(s *suite.Suite) *model {
	return &model{
		s: s, secrets: map[uint32]api.Key{},
		groupEpoch: map[uint32]uint32{}, realmEpoch: map[uint32]uint32{},
		groupKey: map[uint32]api.Key{}, realmKey: map[uint32]api.Key{},
		member: map[[2]uint32]bool{}, reads: map[[2]uint32]bool{},
		was: map[[3]uint32]bool{}, keys: map[[2]uint32]api.Key{},
	}
}

func (m *model) clone() *model {
	return &model{
		s: m.s, secrets: maps.Clone(m.secrets),
		groupEpoch: maps.Clone(m.groupEpoch), realmEpoch: maps.Clone(m.realmEpoch),
		groupKey: maps.Clone(m.groupKey), realmKey: maps.Clone(m.realmKey),
		member: maps.Clone(m.member), reads: maps.Clone(m.reads),
		boxes: slices.Clone(m.boxes), was: maps.Clone(m.was), keys: maps.Clone(m.keys),
	}
}

// do is Do, and then takes down who is a reader of what.
func (m *model) do(c api.Change) api.Errno {
	n := m.clone()
	if e := n.attempt(c); e != api.OK {
		return e
	}
	*m = *n
	for realm, epoch := range m.realmEpoch {
		m.keys[[2]uint32{realm, epoch}] = m.realmKey[realm]
		for who := range m.secrets {
			if m.reader(who, realm) {
				m.was[[3]uint32{who, realm, epoch}] = true
			}
		}
	}
	return api.OK
}

// attempt makes the change as far as it goes; must and wrap leave it by a panic.
func (m *model) attempt(c api.Change) (e api.Errno) {
	defer func() {
		if x := recover(); x != nil {
			e = x.(api.Errno)
		}
	}()
	_, isWho := m.secrets[c.Who]
	_, isGroup := m.groupKey[c.Group]
	_, isRealm := m.realmKey[c.Realm]
	switch c.Kind {
	case api.AddPrincipal:
		must(!isWho, api.ErrPrincipal)
		m.secrets[c.Who] = m.draw()
	case api.AddGroup:
		must(!isGroup, api.ErrGroup)
		m.groupKey[c.Group], m.groupEpoch[c.Group] = m.draw(), 0
	case api.AddRealm:
		must(!isRealm, api.ErrRealm)
		must(isGroup, api.ErrGroup)
		m.realmKey[c.Realm], m.realmEpoch[c.Realm] = m.draw(), 0
		m.reads[[2]uint32{c.Group, c.Realm}] = true
		m.realmBox(c.Realm, c.Group)
	case api.Enrol, api.Expel:
		must(isWho, api.ErrPrincipal)
		must(isGroup, api.ErrGroup)
		m.setMember(c, [2]uint32{c.Who, c.Group})
	case api.Grant, api.Revoke:
		must(isGroup, api.ErrGroup)
		must(isRealm, api.ErrRealm)
		m.setReads(c, [2]uint32{c.Group, c.Realm})
	default:
		must(false, api.ErrRange)
	}
	return api.OK
}

func (m *model) setMember(c api.Change, pair [2]uint32) {
	switch {
	case m.member[pair] == (c.Kind == api.Enrol):
	case c.Kind == api.Enrol:
		m.member[pair] = true
		m.groupBox(c.Group, c.Who)
	default:
		delete(m.member, pair)
		m.nextGroup(c.Group)
		for _, realm := range slices.Sorted(maps.Keys(m.realmKey)) {
			if m.reads[[2]uint32{c.Group, realm}] {
				m.turn(realm)
			}
		}
	}
}

func (m *model) setReads(c api.Change, pair [2]uint32) {
	switch {
	case m.reads[pair] == (c.Kind == api.Grant):
	case c.Kind == api.Grant:
		m.reads[pair] = true
		m.realmBox(c.Realm, c.Group)
	default:
		delete(m.reads, pair)
		m.nextGroup(c.Group)
		for _, realm := range slices.Sorted(maps.Keys(m.realmKey)) {
			if m.reads[[2]uint32{c.Group, realm}] {
				m.realmBox(realm, c.Group)
			}
		}
		m.turn(c.Realm)
	}
}

func must(is bool, e api.Errno) {
	if !is {
		panic(e)
	}
}

func (m *model) draw() api.Key {
	key, e := m.s.Draw()
	must(e == api.OK, e)
	return key
}

func (m *model) wrap(b api.Box, kek, key api.Key) {
	ct, e := m.s.Wrap(kek, key)
	must(e == api.OK, e)
	b.Ct = ct
	m.boxes = append(m.boxes, b)
}

func (m *model) groupBox(group, who uint32) {
	m.wrap(api.Box{Kind: 1, Of: group, Epoch: m.groupEpoch[group], For: who, At: 0}, m.secrets[who], m.groupKey[group])
}

func (m *model) realmBox(realm, group uint32) {
	m.wrap(api.Box{Kind: 2, Of: realm, Epoch: m.realmEpoch[realm], For: group, At: m.groupEpoch[group]}, m.groupKey[group], m.realmKey[realm])
}

func (m *model) nextGroup(group uint32) {
	m.groupEpoch[group]++
	m.groupKey[group] = m.draw()
	for _, who := range slices.Sorted(maps.Keys(m.secrets)) {
		if m.member[[2]uint32{who, group}] {
			m.groupBox(group, who)
		}
	}
}

func (m *model) turn(realm uint32) {
	was := m.realmKey[realm]
	m.realmEpoch[realm]++
	m.realmKey[realm] = m.draw()
	m.wrap(api.Box{Kind: 3, Of: realm, Epoch: m.realmEpoch[realm], For: 0, At: m.realmEpoch[realm] - 1}, m.realmKey[realm], was)
	for _, group := range slices.Sorted(maps.Keys(m.groupKey)) {
		if m.reads[[2]uint32{group, realm}] {
			m.realmBox(realm, group)
		}
	}
}

// reader says whether who is a member of a group that reads the realm, as it is now.
func (m *model) reader(who, realm uint32) bool {
	for group := range m.groupKey {
		if m.member[[2]uint32{who, group}] && m.reads[[2]uint32{group, realm}] {
			return true
		}
	}
	return false
}

// can says whether who was a reader of the realm at some time from that epoch on (P21.5).
func (m *model) can(who, realm, epoch uint32) bool {
	for at := range m.was {
		if at[0] == who && at[1] == realm && at[2] >= epoch {
			return true
		}
	}
	return false
}

// plainUnbox is Unbox as the document's sentences tell it, box by box.
func plainUnbox(s *suite.Suite, secret api.Key, who, realm, epoch uint32, l []api.Box) (api.Key, api.Errno) {
	opens := func(r api.Box) (api.Key, bool) {
		for _, g := range l {
			if g.Kind == api.BoxGroup && g.For == who && g.Of == r.For && g.Epoch == r.At {
				if kek, e := s.Unwrap(secret, g.Ct); e == api.OK {
					if key, e := s.Unwrap(kek, r.Ct); e == api.OK {
						return key, true
					}
				}
			}
		}
		return api.Key{}, false
	}
	best, key := -1, api.Key{}
	for i, b := range l {
		if b.Kind == api.BoxRealm && b.Of == realm && b.Epoch >= epoch && (best < 0 || b.Epoch < l[best].Epoch) {
			if k, is := opens(b); is {
				best, key = i, k
			}
		}
	}
	if best < 0 {
		return api.Key{}, api.ErrNoKey
	}
	for at := l[best].Epoch; at > epoch; at-- {
		i := slices.IndexFunc(l, func(b api.Box) bool { return b.Kind == api.BoxChain && b.Of == realm && b.Epoch == at })
		if i < 0 {
			return api.Key{}, api.ErrNoKey
		}
		var e api.Errno
		if key, e = s.Unwrap(key, l[i].Ct); e != api.OK {
			return api.Key{}, api.ErrNoKey
		}
	}
	return key, api.OK
}

// dice is draws for tests, always the same ones of a seed.
type dice struct{ at uint64 }

// roll is the next draw, from 0 to n - 1.
func (d *dice) roll(n int) int {
	d.at = d.at*6364136223846793005 + 1442695040888963407
	return int(d.at >> 33 % uint64(n))
}

// pick is one of these, drawn.
func pick[T any](d *dice, l ...T) T {
	return l[d.roll(len(l))]
}

// run is so many changes behind some that add most of those whom the others speak of.
func (d *dice) run(n int) []api.Change {
	var out []api.Change
	for _, c := range []api.Change{
		addPrincipal(1), addPrincipal(2), addPrincipal(3), addPrincipal(math.MaxUint32), addGroup(0), addGroup(1), addGroup(2),
		addRealm(1, 1), addRealm(2, 70), enrol(1, 1), enrol(2, 1), enrol(2, 2),
	} {
		if d.roll(8) > 0 {
			out = append(out, c)
		}
	}
	for range n {
		out = append(out, d.change())
	}
	return out
}

// change is one of any kind, most of them in few groups and realms.
func (d *dice) change() api.Change {
	if d.roll(50) == 0 {
		return api.Change{Kind: pick(d, 0, -1, 8, math.MaxInt), Who: 1, Group: 1, Realm: 1}
	}
	return api.Change{
		Kind:  pick(d, 1, 2, 3, 3, 4, 4, 4, 4, 5, 5, 6, 6, 6, 7, 7),
		Who:   pick[uint32](d, 1, 2, 3, 4, math.MaxUint32),
		Group: pick[uint32](d, 0, 1, 2, 9),
		Realm: pick[uint32](d, 1, 2, 70),
	}
}

// wantAsModel fails unless r tells what m has, with so many draws left.
func wantAsModel(t *testing.T, r *Ring, m *model, left, wantLeft int) {
	t.Helper()
	if left != wantLeft {
		t.Fatalf("%d left, not %d", left, wantLeft)
	}
	if got := all(r); !same(got, m.boxes) {
		t.Fatalf("%d boxes, not %d: %s\nnot %s", len(got), len(m.boxes), short(got), short(m.boxes))
	}
	for _, n := range asked {
		secret, isWho := r.Secret(n)
		epoch, isRealm := r.Epoch(n)
		wantSecret, wantWho := m.secrets[n]
		wantEpoch, wantRealm := m.realmEpoch[n]
		if secret != wantSecret || isWho != wantWho || epoch != wantEpoch || isRealm != wantRealm {
			t.Fatalf("%d: %x %t, %d %t", n, secret, isWho, epoch, isRealm)
		}
	}
}

// wantOpened fails unless Open and Keys answer what is to be answered by the model's boxes, and is what opened.
func wantOpened(t *testing.T, r *Ring, m *model) (opened int) {
	t.Helper()
	for _, who := range asked {
		secret, is := m.secrets[who]
		var keys []api.RealmKey
		for _, realm := range asked {
			latest := m.realmEpoch[realm]
			for epoch := range latest + 3 {
				want, e := plainUnbox(m.s, secret, who, realm, epoch, m.boxes)
				if !is {
					want, e = api.Key{}, api.ErrPrincipal
				}
				if key, bad := r.Open(who, realm, epoch); bad != e || key != want {
					t.Fatalf("Open(%d, %d, %d): %x, error %d, not %x, %d", who, realm, epoch, key, bad, want, e)
				}
				if e == api.OK && epoch <= latest {
					keys = append(keys, api.RealmKey{Realm: realm, Epoch: epoch, Key: want})
				}
			}
		}
		if got := r.Keys(who); !reflect.DeepEqual(got, keys) {
			t.Fatalf("Keys(%d): %s, not %s", who, short(got), short(keys))
		}
		opened += len(keys)
	}
	return opened
}

// wantReaders fails unless who opens what they were readers of, at that time or later, and nothing else (P21.5).
func wantReaders(t *testing.T, r *Ring, m *model) {
	t.Helper()
	for who := range m.secrets {
		for realm, latest := range m.realmEpoch {
			for epoch := range latest + 2 {
				if m.can(who, realm, epoch) {
					wantOpen(t, r, who, realm, epoch, m.keys[[2]uint32{realm, epoch}])
				} else {
					wantClosed(t, r, who, realm, epoch, api.ErrNoKey)
				}
			}
		}
	}
}

// P21.1 to P21.5: drawn runs, in both modes, with draws that end somewhere.
func TestDrawnRuns(t *testing.T) {
	opened := 0
	for seed := range uint64(120) {
		d := &dice{at: seed}
		mode := pick(d, api.Real, api.Ideal)
		n := pick(d, 500+d.roll(4000), 30000)
		x, y := tape.New(draws(n)), tape.New(draws(n))
		r, m := New(suite.New(mode, x)), newModel(suite.New(mode, y))
		for _, c := range d.run(60) {
			if got, want := r.Do(c), m.do(c); got != want {
				t.Fatalf("seed %d, %+v: error %d, not %d", seed, c, got, want)
			}
			wantAsModel(t, r, m, x.Left(), y.Left())
		}
		opened += wantOpened(t, r, m)
		wantReaders(t, r, m)
	}
	if opened < 2000 {
		t.Fatalf("the runs open %d keys only", opened)
	}
}

// P21.5, G3: at each time of a run.
func TestReaders(t *testing.T) {
	for seed := range uint64(25) {
		d := &dice{at: seed + 1000}
		mode := pick(d, api.Real, api.Ideal)
		r, m := New(suite.New(mode, tape.New(draws(40000)))), newModel(suite.New(mode, tape.New(draws(40000))))
		for _, c := range d.run(50) {
			if got, want := r.Do(c), m.do(c); got != want {
				t.Fatalf("seed %d, %+v: error %d, not %d", seed, c, got, want)
			}
			wantReaders(t, r, m)
		}
	}
}

// P21.2 to P21.4: also where draws are alike, so that boxes that were made for others open.
func TestDrawsThatAreAlike(t *testing.T) {
	for seed := range uint64(60) {
		d := &dice{at: seed}
		mode := pick(d, api.Real, api.Ideal, api.Ideal)
		b := bytes.Repeat(draws(pick(d, 1, 4, 76, 108, 152)), 20000)[:20000]
		x, y := tape.New(b), tape.New(b)
		r, m := New(suite.New(mode, x)), newModel(suite.New(mode, y))
		for _, c := range d.run(50) {
			if got, want := r.Do(c), m.do(c); got != want {
				t.Fatalf("seed %d, %+v: error %d, not %d", seed, c, got, want)
			}
			wantAsModel(t, r, m, x.Left(), y.Left())
		}
		wantOpened(t, r, m)
	}
}

// spoilt is l with one change to its boxes.
func (d *dice) spoilt(l []api.Box) []api.Box {
	l = slices.Clone(l)
	i, j := d.roll(len(l)), d.roll(len(l))
	switch d.roll(9) {
	case 0, 1:
		return slices.Delete(l, i, i+1)
	case 2:
		l[i], l[j] = l[j], l[i]
	case 3:
		l = slices.Insert(l, i, l[j])
	case 4:
		l[i].Ct = l[j].Ct
	case 5:
		l[i].Kind = d.roll(5)
	case 6:
		l[i].Of, l[i].For = l[j].Of, l[j].For
	case 7:
		l[i].Epoch, l[i].At = l[j].Epoch, l[j].At
	default:
		l[i].Ct = slices.Clone(l[i].Ct)
		l[i].Ct[d.roll(len(l[i].Ct))] ^= 1
	}
	return l
}

// P21.4: Unbox of boxes that were lost, changed, doubled and exchanged.
func TestUnboxOfSpoiltBoxes(t *testing.T) {
	count := map[api.Errno]int{}
	for seed := range uint64(200) {
		d := &dice{at: seed}
		r, s, _ := drawn(pick(d, api.Real, api.Ideal), 100000)
		for _, c := range d.run(40) {
			r.Do(c)
		}
		l := all(r)
		if len(l) == 0 {
			continue
		}
		for range 12 {
			if l = d.spoilt(l); len(l) == 0 {
				break
			}
			who, realm := pick[uint32](d, 1, 2, 3, 4, math.MaxUint32), pick[uint32](d, 1, 2, 70)
			secret, _ := r.Secret(who)
			for epoch := range uint32(6) {
				want, e := plainUnbox(s, secret, who, realm, epoch, l)
				got, f := Unbox(s, secret, who, realm, epoch, l)
				if got != want || e != f {
					t.Fatalf("seed %d: %x, error %d, not %x, %d", seed, got, f, want, e)
				}
				count[e]++
			}
		}
	}
	if count[api.OK] < 500 || count[api.ErrNoKey] < 500 {
		t.Fatalf("they come to %v", count)
	}
}
