package acl

import (
	"iter"
	"math"
	"slices"
)

// stay is epochs that lie side by side, in each of which somebody was a Reader: from first on, and ahead of until.
// A Reader who stays needs no more room with each epoch.
type stay struct {
	first, until uint32
}

// open is until of a stay that goes on: there are fewer changes than that (Limits), so no epoch comes to it.
const open = math.MaxUint32

// has says whether the stay has that epoch.
func (s stay) has(epoch uint32) bool {
	return s.first <= epoch && epoch < s.until
}

// history is who reads a realm, and who was a Reader of it when.
type history struct {
	epoch  uint32
	groups numbers
	// stays is by principals, of each of them rising; a Reader's last one is open.
	stays map[uint32][]stay
}

// newHistory is epoch 0 of a realm that no group reads.
func newHistory() *history {
	return &history{groups: numbers{}, stays: map[uint32][]stay{}}
}

// come makes who a Reader from now on; of who is one already nothing changes.
func (h *history) come(who uint32) {
	l := h.stays[who]
	if last := len(l) - 1; last >= 0 && h.epoch <= l[last].until {
		l[last].until = open
		return
	}
	h.stays[who] = append(l, stay{first: h.epoch, until: open})
}

// leave makes a Reader none of this epoch's, nor of later ones.
func (h *history) leave(who uint32) {
	l := h.stays[who]
	l[len(l)-1].until = h.epoch
}

// during tells, in no order, who was a Reader in that epoch.
func (h *history) during(epoch uint32) iter.Seq[uint32] {
	return func(yield func(uint32) bool) {
		if epoch > h.epoch {
			return
		}
		for who, l := range h.stays {
			was := slices.ContainsFunc(l, func(s stay) bool { return s.has(epoch) })
			if was && !yield(who) {
				return
			}
		}
	}
}

// hadSince says whether who was a Reader in that epoch or a later one.
func (h *history) hadSince(who, epoch uint32) bool {
	l := h.stays[who]
	return epoch <= h.epoch && len(l) > 0 && epoch < l[len(l)-1].until
}
