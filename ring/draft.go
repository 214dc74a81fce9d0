package ring

import (
	"iter"
	"maps"

	"tabularium/api"
)

// owner is what has a key: a group or a realm, told apart by the kind of the boxes in which its key stands.
type owner struct {
	kind   int
	number uint32
}

func ofGroup(number uint32) owner {
	return owner{kind: api.BoxGroup, number: number}
}

func ofRealm(number uint32) owner {
	return owner{kind: api.BoxRealm, number: number}
}

// epochKey is a key and the epoch whose key it is.
type epochKey struct {
	epoch uint32
	key   api.Key
}

// draft is keys and boxes of a change: the Ring has none of them till all are there, since any draw may be refused (P21.2).
type draft struct {
	ring  *Ring
	keys  map[owner]epochKey
	boxes []api.Box
	// refused is the first error; behind it nothing more is drawn.
	refused api.Errno
}

// begin is a draft of nothing yet.
func (r *Ring) begin() *draft {
	return &draft{ring: r, keys: map[owner]epochKey{}}
}

// land makes the draft's keys and boxes the Ring's, and then does the rest of the change, unless a draw was refused.
func (d *draft) land(rest func()) api.Errno {
	if d.refused == api.OK {
		maps.Copy(d.ring.keys, d.keys)
		d.ring.boxes = append(d.ring.boxes, d.boxes...)
		rest()
	}
	return d.refused
}

// latest is the owner's key as it is behind this change.
func (d *draft) latest(o owner) epochKey {
	if now, is := d.keys[o]; is {
		return now
	}
	return d.ring.keys[o]
}

// draw draws the owner's key of this epoch.
func (d *draft) draw(o owner, epoch uint32) {
	if d.refused != api.OK {
		return
	}
	key, e := d.ring.ciphers.Draw()
	d.keys[o], d.refused = epochKey{epoch: epoch, key: key}, e
}

// turn draws the owner's key of the next epoch.
func (d *draft) turn(o owner) (was, now epochKey) {
	was = d.latest(o)
	d.draw(o, was.epoch+1)
	return was, d.latest(o)
}

// wrap makes b a box in which key is, for those who have kek.
func (d *draft) wrap(b api.Box, kek, key api.Key) {
	if d.refused != api.OK {
		return
	}
	b.Ct, d.refused = d.ring.ciphers.Wrap(kek, key)
	d.boxes = append(d.boxes, b)
}

// forMember makes the box by which who has the group's key (P21.3).
func (d *draft) forMember(group, who uint32) {
	g := d.latest(ofGroup(group))
	d.wrap(api.Box{Kind: api.BoxGroup, Of: group, Epoch: g.epoch, For: who}, d.ring.secrets[who], g.key)
}

// forGroup makes the box by which the group has the realm's key (P21.3).
func (d *draft) forGroup(realm, group uint32) {
	r, g := d.latest(ofRealm(realm)), d.latest(ofGroup(group))
	d.wrap(api.Box{Kind: api.BoxRealm, Of: realm, Epoch: r.epoch, For: group, At: g.epoch}, g.key, r.key)
}

// turnGroup makes the group's next epoch, for these members (P21.2).
func (d *draft) turnGroup(group uint32, members iter.Seq[uint32]) {
	d.turn(ofGroup(group))
	for who := range members {
		d.forMember(group, who)
	}
}

// turnRealm makes the realm's next epoch, for these groups; who opens it opens the one ahead, too (P21.2).
func (d *draft) turnRealm(realm uint32, groups iter.Seq[uint32]) {
	was, now := d.turn(ofRealm(realm))
	d.wrap(api.Box{Kind: api.BoxChain, Of: realm, Epoch: now.epoch, At: was.epoch}, now.key, was.key)
	for group := range groups {
		d.forGroup(realm, group)
	}
}
