package vault

import (
	"slices"
	"strings"

	"tabularium/api"
	"tabularium/mark"
	"tabularium/suite"
	"tabularium/wire"
)

// outcome is what a request comes to.
type outcome struct {
	reply api.Reply
	// fresh is false of what is told again, and of what a client asked ahead of its last request:
	// if such a one became the last, the requests behind it could be done twice.
	fresh bool
	// change makes so what the reply says; it is nil where nothing changes but the last request.
	change func()
}

// outcomeOf is what r comes to; nothing changes till the outcome's change is called (P17.2).
func (v *State) outcomeOf(r api.Request) outcome {
	o := outcome{reply: api.Reply{Client: r.Client, Seq: r.Seq}}
	if !v.isMade() {
		o.reply.Err = api.ErrRange
		return o
	}
	last, is := v.last[r.Client]
	switch {
	case is && last.Seq == r.Seq:
		o.reply = ownReply(last)
	case is && last.Seq > r.Seq:
		o.reply.Err = api.ErrSession
	default:
		o.fresh = true
		v.answer(r, &o)
	}
	return o
}

// answer tells o what r comes to if it is asked for the first time (P17.2).
func (v *State) answer(r api.Request, o *outcome) {
	t, is := v.tenants[r.Tenant]
	if r.Kind != api.ReqDone && is == (r.Kind == api.ReqTenant) {
		o.reply.Err = api.ErrTenant
		return
	}
	switch r.Kind {
	case api.ReqTenant:
		o.change = func() { v.tenants[r.Tenant] = newTenant(r.N) }
	case api.ReqDrop:
		o.change = func() { delete(v.tenants, r.Tenant) }
	case api.ReqDone:
		last, bad := wire.OfReply(r.Body)
		if bad != api.OK || last.Client == 0 {
			o.reply.Err = api.ErrRange
			return
		}
		o.change = func() { v.last[last.Client] = last }
	default:
		o.reply.Err = t.answer(v.digests, r, o)
	}
}

// answer tells o what r comes to at a tenant that is there, or is the error with which it is refused (P17.2).
func (t *tenant) answer(s *suite.Suite, r api.Request, o *outcome) (bad api.Errno) {
kinds:
	switch r.Kind {
	case api.ReqPut:
		id, e := t.idOf(s, r.Body)
		if bad = e; bad != api.OK {
			break kinds
		}
		o.reply.Id = id
		if !t.has(id) {
			o.change = func() { t.keep(id, r.Body) }
		}
	case api.ReqGet:
		if bad = t.lacks(r.Id); bad != api.OK {
			break kinds
		}
		o.reply.Id, o.reply.Body = r.Id, ownBytes(t.objects[r.Id])
	case api.ReqHas:
		if t.has(r.Id) {
			o.reply.N = 1
		}
	case api.ReqRef:
		at, is := t.refs[r.Name]
		if !is {
			bad = api.ErrNone
			break kinds
		}
		o.reply.Id = at
	case api.ReqCas:
		if bad = t.refuses(r); bad != api.OK {
			break kinds
		}
		o.reply.Id = r.Id
		o.change = func() { t.set(r.Name, r.Id) }
	case api.ReqList:
		o.reply.N, o.reply.Names = uint64(len(t.refs)), t.names()
	case api.ReqGc:
		_, gone := mark.Sweep(t.list(), t.heads()...)
		o.reply.N = uint64(len(gone))
		o.change = func() { t.lose(gone) }
	default:
		bad = api.ErrRange
	}
	return bad
}

// ownReply is a in memory of its own, so that what is told isn't what is kept.
func ownReply(a api.Reply) api.Reply {
	a.Body, a.Names = ownBytes(a.Body), slices.Clip(slices.Clone(a.Names))
	for i, name := range a.Names {
		a.Names[i] = strings.Clone(name)
	}
	return a
}

// ownBytes is b in memory of its own, without room behind it.
func ownBytes(b []byte) []byte {
	return slices.Clip(slices.Clone(b))
}
