package vault

import (
	"iter"
	"maps"
	"slices"
	"strings"

	"tabularium/api"
	"tabularium/envel"
	"tabularium/route"
	"tabularium/suite"
)

// maxNames is how many names a reply tells.
const maxNames = 1000

// tenant is what a host keeps for one of those who share it.
type tenant struct {
	quota uint64
	// used is how many bytes the objects have; it is never more than quota.
	used uint64
	// objects are envelopes' bytes by their ids; none of these bytes changes any more.
	objects map[api.Id][]byte
	// refs never stand at noughts: such a one is gone.
	refs map[string]api.Id
}

// newTenant is one without objects and refs.
func newTenant(quota uint64) *tenant {
	return &tenant{quota: quota, objects: map[api.Id][]byte{}, refs: map[string]api.Id{}}
}

// has says whether there is an object with this id.
func (t *tenant) has(id api.Id) bool {
	_, is := t.objects[id]
	return is
}

// lacks is an error if one of these objects isn't there.
func (t *tenant) lacks(ids ...api.Id) api.Errno {
	for _, id := range ids {
		if !t.has(id) {
			return api.ErrNone
		}
	}
	return api.OK
}

// idOf is the id that b has or would have as an object, or why it may not be one (P17.2).
// It is drawn only for an envelope all of whose links are there.
func (t *tenant) idOf(s *suite.Suite, b []byte) (api.Id, api.Errno) {
	e, bad := envel.Of(b)
	if bad == api.OK {
		bad = t.lacks(e.Links...)
	}
	if bad != api.OK {
		return api.Id{}, bad
	}
	id, bad := s.Digest(b)
	switch {
	case bad != api.OK:
		return api.Id{}, bad
	case !t.has(id) && uint64(len(b)) > t.quota-t.used:
		return api.Id{}, api.ErrQuota
	default:
		return id, api.OK
	}
}

// keep makes b an object, in memory of its own.
func (t *tenant) keep(id api.Id, b []byte) {
	t.objects[id] = ownBytes(b)
	t.used += uint64(len(b))
}

// lose takes objects out.
func (t *tenant) lose(ids []api.Id) {
	for _, id := range ids {
		t.used -= uint64(len(t.objects[id]))
		delete(t.objects, id)
	}
}

// list is the objects in the order of their ids.
func (t *tenant) list() []api.Object {
	ids := envel.Links(slices.Collect(maps.Keys(t.objects))...)
	all := make([]api.Object, 0, len(ids))
	for _, id := range ids {
		b := t.objects[id]
		// It was an envelope when it was put, so there is no error.
		e, _ := envel.Of(b)
		all = append(all, api.Object{Id: id, Links: e.Links, Size: len(b)})
	}
	return all
}

// refuses is the error with which a ReqCas isn't done, if it isn't (P17.2).
func (t *tenant) refuses(r api.Request) api.Errno {
	switch {
	case !route.Good(r.Name):
		return api.ErrName
	case t.refs[r.Name] != r.Old:
		return api.ErrStale
	case r.Id == api.Id{}:
		return api.OK
	default:
		return t.lacks(r.Id)
	}
}

// set makes a ref stand at id; at noughts it is gone.
func (t *tenant) set(name string, id api.Id) {
	if id == (api.Id{}) {
		delete(t.refs, name)
		return
	}
	t.refs[strings.Clone(name)] = id
}

// branches tells the refs by their names, rising.
func (t *tenant) branches() iter.Seq[api.Ref] {
	return func(yield func(api.Ref) bool) {
		for _, name := range slices.Sorted(maps.Keys(t.refs)) {
			if !yield(api.Ref{Name: strings.Clone(name), Id: t.refs[name]}) {
				return
			}
		}
	}
}

// names is the names of the refs, rising, as many of them as a reply tells.
func (t *tenant) names() []string {
	var all []string
	for ref := range t.branches() {
		if len(all) == maxNames {
			break
		}
		all = append(all, ref.Name)
	}
	return slices.Clip(all)
}

// heads is where the refs stand.
func (t *tenant) heads() []api.Id {
	var all []api.Id
	for ref := range t.branches() {
		all = append(all, ref.Id)
	}
	return all
}
