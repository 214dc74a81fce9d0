package ring

import (
	"iter"

	"tabularium/api"
	"tabularium/suite"
)

// Unbox is the realm's key of that epoch, if who opens it with the secret by the boxes of l (P21.4).
func Unbox(s *suite.Suite, secret api.Key, who, realm, epoch uint32, l []api.Box) (api.Key, api.Errno) {
	return newOpener(s, secret, who, l).open(realm, epoch)
}

// groupEpoch is a group in one of its epochs.
type groupEpoch struct {
	group, epoch uint32
}

// opener is boxes, and those keys of groups that somebody opens there.
type opener struct {
	ciphers *suite.Suite
	boxes   []api.Box
	// groups may have more than one key by a group's epoch: anybody may have made the boxes.
	groups map[groupEpoch][]api.Key
}

// newOpener is what who opens with the secret.
func newOpener(s *suite.Suite, secret api.Key, who uint32, l []api.Box) *opener {
	o := &opener{ciphers: s, boxes: l, groups: map[groupEpoch][]api.Key{}}
	for b := range o.told(api.BoxGroup) {
		if b.For != who {
			continue
		}
		if key, e := s.Unwrap(secret, b.Ct); e == api.OK {
			at := groupEpoch{group: b.Of, epoch: b.Epoch}
			o.groups[at] = append(o.groups[at], key)
		}
	}
	return o
}

// told tells the boxes of a kind, in order.
func (o *opener) told(kind int) iter.Seq[api.Box] {
	return func(yield func(api.Box) bool) {
		for _, b := range o.boxes {
			if b.Kind == kind && !yield(b) {
				return
			}
		}
	}
}

// open goes into the realm at the first epoch that a group's key opens, and from there down to the one that is asked for.
func (o *opener) open(realm, epoch uint32) (api.Key, api.Errno) {
	in, is := o.enter(realm, epoch)
	if !is {
		return api.Key{}, api.ErrNoKey
	}
	chains, e := o.chains(realm), api.OK
down:
	for in.epoch > epoch {
		// Where no box is, there are no bytes; nothing opens these.
		in.key, e = o.ciphers.Unwrap(in.key, chains[in.epoch])
		if e != api.OK {
			break down
		}
		in.epoch--
	}
	if e != api.OK {
		return api.Key{}, api.ErrNoKey
	}
	return in.key, api.OK
}

// enter is the realm's first key from that epoch on that a group's key opens, and whether there is one.
func (o *opener) enter(realm, epoch uint32) (in epochKey, is bool) {
	for b := range o.told(api.BoxRealm) {
		if b.Of != realm || b.Epoch < epoch || is && b.Epoch >= in.epoch {
			continue
		}
		if key, opens := o.openRealm(b); opens {
			in, is = epochKey{epoch: b.Epoch, key: key}, true
		}
	}
	return in, is
}

// openRealm is the key in the box, if one of its group's keys opens it.
func (o *opener) openRealm(b api.Box) (api.Key, bool) {
	for _, kek := range o.groups[groupEpoch{group: b.For, epoch: b.At}] {
		if key, e := o.ciphers.Unwrap(kek, b.Ct); e == api.OK {
			return key, true
		}
	}
	return api.Key{}, false
}

// chains is, by the realm's epochs, the first box with the key of the epoch ahead.
func (o *opener) chains(realm uint32) map[uint32][]byte {
	first := map[uint32][]byte{}
	for b := range o.told(api.BoxChain) {
		if b.Of == realm && !has(first, b.Epoch) {
			first[b.Epoch] = b.Ct
		}
	}
	return first
}
