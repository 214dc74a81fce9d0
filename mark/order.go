package mark

import (
	"container/heap"
	"sort"

	"tabularium/api"
)

// Order is the objects such that each stands behind all those that it links to, and whether there is such an order (P15.3).
// An object that can't be placed waits for the first link that keeps it back: it is looked at again only when that one is placed.
func Order(l []api.Object) ([]api.Object, bool) {
	left, open := idsOf(l), placesOf(l)
	waiting := map[api.Id][]int{}
	done := make([]int, len(l)) // how many of an object's links keep it back no more
	out := make([]api.Object, 0, len(l))
objects:
	for open.Len() > 0 {
		i := open.first()
		for _, link := range l[i].Links[done[i]:] {
			if _, is := left[link]; is {
				waiting[link] = append(waiting[link], i)
				continue objects
			}
			done[i]++
		}
		out = append(out, own(l[i]))
		id := l[i].Id
		delete(left, id)
		open.more(waiting[id])
		delete(waiting, id)
	}
	if len(out) < len(l) {
		return nil, false
	}
	return out, true
}

// idsOf is the ids that objects have.
func idsOf(l []api.Object) map[api.Id]struct{} {
	ids := map[api.Id]struct{}{}
	for _, o := range l {
		ids[o.Id] = struct{}{}
	}
	return ids
}

// places are places in a list, as a heap: what is placed may free an object that stands ahead of all that are still to be looked at.
type places struct {
	sort.IntSlice
}

// placesOf is all places of l; rising as they are, they are a heap already.
func placesOf(l []api.Object) *places {
	p := &places{}
	for i := range l {
		p.IntSlice = append(p.IntSlice, i)
	}
	return p
}

// Push is there for package heap, which asks for it: use more.
func (p *places) Push(x any) {
	p.IntSlice = append(p.IntSlice, x.(int))
}

// Pop is there for package heap, which asks for it: use first.
func (p *places) Pop() any {
	last := p.Len() - 1
	x := p.IntSlice[last]
	p.IntSlice = p.IntSlice[:last]
	return x
}

// first takes the lowest place out.
func (p *places) first() int {
	return heap.Pop(p).(int)
}

// more adds places.
func (p *places) more(l []int) {
	for _, i := range l {
		heap.Push(p, i)
	}
}
