package ring

import (
	"iter"
	"maps"
	"slices"

	"tabularium/api"
)

// numbers is a set of principals, groups or realms.
type numbers map[uint32]struct{}

// has says whether n is a key of m.
func has[V any](m map[uint32]V, n uint32) bool {
	_, is := m[n]
	return is
}

// rising tells the keys of m in their order, but for those that are left out.
func rising[V any](m map[uint32]V, out ...uint32) iter.Seq[uint32] {
	return func(yield func(uint32) bool) {
		for _, n := range slices.Sorted(maps.Keys(m)) {
			if !slices.Contains(out, n) && !yield(n) {
				return
			}
		}
	}
}

// reads is the realms that the group reads.
func (r *Ring) reads(group uint32) numbers {
	realms := numbers{}
	for realm, groups := range r.readers {
		if has(groups, group) {
			realms[realm] = struct{}{}
		}
	}
	return realms
}

// lacksMember is an error if there is no such principal or group.
func (r *Ring) lacksMember(who, group uint32) api.Errno {
	switch {
	case !has(r.secrets, who):
		return api.ErrPrincipal
	case !has(r.members, group):
		return api.ErrGroup
	default:
		return api.OK
	}
}

// lacksReader is an error if there is no such group or realm.
func (r *Ring) lacksReader(group, realm uint32) api.Errno {
	switch {
	case !has(r.members, group):
		return api.ErrGroup
	case !has(r.readers, realm):
		return api.ErrRealm
	default:
		return api.OK
	}
}

// addPrincipal draws a secret of who.
func (r *Ring) addPrincipal(who uint32) api.Errno {
	if has(r.secrets, who) {
		return api.ErrPrincipal
	}
	secret, e := r.ciphers.Draw()
	if e == api.OK {
		r.secrets[who] = secret
	}
	return e
}

// addGroup draws the first key of a group without members.
func (r *Ring) addGroup(group uint32) api.Errno {
	if has(r.members, group) {
		return api.ErrGroup
	}
	d := r.begin()
	d.draw(ofGroup(group), 0)
	return d.land(func() { r.members[group] = numbers{} })
}

// addRealm draws the first key of a realm that the group reads.
func (r *Ring) addRealm(group, realm uint32) api.Errno {
	switch {
	case has(r.readers, realm):
		return api.ErrRealm
	case !has(r.members, group):
		return api.ErrGroup
	}
	d := r.begin()
	d.draw(ofRealm(realm), 0)
	d.forGroup(realm, group)
	return d.land(func() { r.readers[realm] = numbers{group: {}} })
}

// enrol gives who the group's key, unless who has it already.
func (r *Ring) enrol(who, group uint32) api.Errno {
	if e := r.lacksMember(who, group); e != api.OK || has(r.members[group], who) {
		return e
	}
	d := r.begin()
	d.forMember(group, who)
	return d.land(func() { r.members[group][who] = struct{}{} })
}

// expel gives the others of the group, and all that it reads, keys that who has not.
func (r *Ring) expel(who, group uint32) api.Errno {
	if e := r.lacksMember(who, group); e != api.OK || !has(r.members[group], who) {
		return e
	}
	d := r.begin()
	d.turnGroup(group, rising(r.members[group], who))
	for realm := range rising(r.reads(group)) {
		d.turnRealm(realm, rising(r.readers[realm]))
	}
	return d.land(func() { delete(r.members[group], who) })
}

// grant gives the group the realm's key, unless it has it already.
func (r *Ring) grant(group, realm uint32) api.Errno {
	if e := r.lacksReader(group, realm); e != api.OK || has(r.readers[realm], group) {
		return e
	}
	d := r.begin()
	d.forGroup(realm, group)
	return d.land(func() { r.readers[realm][group] = struct{}{} })
}

// revoke gives the other groups of the realm a key that this one has not.
// The group's own key changes, too: who joins it later isn't to open by it what it read once.
func (r *Ring) revoke(group, realm uint32) api.Errno {
	if e := r.lacksReader(group, realm); e != api.OK || !has(r.readers[realm], group) {
		return e
	}
	d := r.begin()
	d.turnGroup(group, rising(r.members[group]))
	for other := range rising(r.reads(group), realm) {
		d.forGroup(other, group)
	}
	d.turnRealm(realm, rising(r.readers[realm], group))
	return d.land(func() { delete(r.readers[realm], group) })
}
