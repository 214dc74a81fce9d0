package acl

import (
	"cmp"
	"iter"

	"tabularium/api"
)

// refusal is the first error for which the change isn't made (P21.2).
func (m *Model) refusal(c api.Change) api.Errno {
	if !m.isMade() {
		return api.ErrRange
	}
	_, isWho := m.principals[c.Who]
	_, isGroup := m.members[c.Group]
	_, isRealm := m.realms[c.Realm]
	switch c.Kind {
	case api.AddPrincipal:
		return errorIf(isWho, api.ErrPrincipal)
	case api.AddGroup:
		return errorIf(isGroup, api.ErrGroup)
	case api.AddRealm:
		return cmp.Or(errorIf(isRealm, api.ErrRealm), errorIf(!isGroup, api.ErrGroup))
	case api.Enrol, api.Expel:
		return cmp.Or(errorIf(!isWho, api.ErrPrincipal), errorIf(!isGroup, api.ErrGroup))
	case api.Grant, api.Revoke:
		return cmp.Or(errorIf(!isGroup, api.ErrGroup), errorIf(!isRealm, api.ErrRealm))
	default:
		return api.ErrRange
	}
}

// errorIf is e, if that is so.
func errorIf(so bool, e api.Errno) api.Errno {
	if so {
		return e
	}
	return api.OK
}

// change makes a change that isn't refused.
func (m *Model) change(c api.Change) {
	switch c.Kind {
	case api.AddPrincipal:
		m.principals[c.Who] = struct{}{}
	case api.AddGroup:
		m.members[c.Group] = numbers{}
	case api.AddRealm:
		m.realms[c.Realm] = newHistory()
		m.grant(c.Group, c.Realm)
	case api.Enrol:
		m.enrol(c.Who, c.Group)
	case api.Expel:
		m.expel(c.Who, c.Group)
	case api.Grant:
		m.grant(c.Group, c.Realm)
	case api.Revoke:
		m.revoke(c.Group, c.Realm)
	}
}

// enrol makes who a Reader of all that the group reads.
func (m *Model) enrol(who, group uint32) {
	m.members[group][who] = struct{}{}
	for h := range m.readBy(group) {
		h.come(who)
	}
}

// expel turns all that the group reads, so that who has nothing of the epochs to come by it.
func (m *Model) expel(who, group uint32) {
	if !m.Member(who, group) {
		return
	}
	delete(m.members[group], who)
	for h := range m.readBy(group) {
		m.turn(h, numbers{who: {}})
	}
}

// grant makes the group's members Readers of the realm.
func (m *Model) grant(group, realm uint32) {
	h := m.realms[realm]
	h.groups[group] = struct{}{}
	for who := range m.members[group] {
		h.come(who)
	}
}

// revoke turns the realm, so that the group's members have nothing of the epochs to come by this group.
func (m *Model) revoke(group, realm uint32) {
	if !m.Reads(group, realm) {
		return
	}
	h := m.realms[realm]
	delete(h.groups, group)
	m.turn(h, m.members[group])
}

// turn begins the realm's next epoch; some were taken off, of whom those are Readers still whom another group has (P22.4).
func (m *Model) turn(h *history, off numbers) {
	h.epoch++
principals:
	for who := range off {
		for group := range h.groups {
			if m.Member(who, group) {
				continue principals
			}
		}
		h.leave(who)
	}
}

// readBy tells, in no order, the realms that the group reads.
func (m *Model) readBy(group uint32) iter.Seq[*history] {
	return func(yield func(*history) bool) {
		for _, h := range m.realms {
			if _, is := h.groups[group]; is && !yield(h) {
				return
			}
		}
	}
}
