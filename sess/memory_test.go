package sess

import (
	"bytes"
	"testing"

	"tabularium/api"
	"tabularium/lossy"
	"tabularium/suite"
	"tabularium/wire"
)

// spoil writes over all that an answer hands out, and over what lies behind its lengths.
func spoil(a api.Reply) {
	body := a.Body[:cap(a.Body)]
	for i := range body {
		body[i] = 0xee
	}
	names := a.Names[:cap(a.Names)]
	for i := range names {
		names[i] = "spoilt"
	}
}

// P2: a call leaves the request as it is, with what lies behind its body; and what becomes of that later changes nothing at the host.
func TestCallLeavesTheRequest(t *testing.T) {
	h, _ := hostOn(t, 100)
	c, up, down := New(7, 3), lossy.New(lost, doubled), lossy.New(lost)
	wantAnswer(t, c, h, up, down, tenant(1), api.Reply{})
	all := append(blob("a"), "behind it"...)
	was := bytes.Clone(all)
	r := api.Request{Client: 3, Seq: 4, Kind: api.ReqPut, Tenant: 1, Body: all[:len(all)-9]}
	id, _ := suite.New(api.Real, nil).Digest(r.Body)
	wantAnswer(t, c, h, up, down, r, api.Reply{Id: id})
	if !bytes.Equal(all, was) || r.Client != 3 || r.Seq != 4 {
		t.Fatalf("the request became %+v", r)
	}
	clear(all)
	wantAnswer(t, c, h, up, down, api.Request{Kind: api.ReqGet, Tenant: 1, Id: id}, api.Reply{Id: id, Body: was[:len(was)-9]})
}

// P2: an answer is the caller's: written to, it changes neither what the host has, nor what it tells again, nor another answer.
func TestAnswersAreNewMemory(t *testing.T) {
	h, _ := hostOn(t, 100)
	c, up, down := New(7, 3), lossy.New(), lossy.New()
	b := blob("a")
	id, _ := suite.New(api.Real, nil).Digest(b)
	wantAnswer(t, c, h, up, down, tenant(1), api.Reply{})
	wantAnswer(t, c, h, up, down, api.Request{Kind: api.ReqPut, Tenant: 1, Body: b}, api.Reply{Id: id})
	wantAnswer(t, c, h, up, down, api.Request{Kind: api.ReqCas, Tenant: 1, Name: "main", Id: id}, api.Reply{Id: id})
	for _, r := range []api.Request{{Kind: api.ReqGet, Tenant: 1, Id: id}, {Kind: api.ReqList, Tenant: 1}} {
		first, e := c.Call(h, lossy.New(doubled), lossy.New(doubled), r)
		second, bad := c.Call(h, up, down, r)
		if e != api.OK || bad != api.OK || len(first.Body)+len(first.Names) == 0 {
			t.Fatalf("%+v, error %d; %+v, error %d", first, e, second, bad)
		}
		spoil(first)
		last, _ := h.State().Last(7)
		again, _ := c.Call(h, up, down, r)
		again.Seq--
		if !wire.SameReply(second, again) || !wire.SameReply(second, last) {
			t.Fatalf("%+v, %+v and %+v", second, last, again)
		}
	}
}

// P2: a planted answer that is told twice is told in memory of its own.
func TestCopiesOfAnAnswerAreApart(t *testing.T) {
	planted := api.Reply{Client: 7, Seq: 1, Body: []byte("body"), Names: []string{"name"}}
	b := asReply(planted)
	c, same, one, two := New(7, 1), New(7, 1), lossy.New(), lossy.New()
	one.Send(b)
	two.Send(b)
	first, _ := c.Call(nil, nil, one, tenant(1))
	second, _ := same.Call(nil, nil, two, tenant(1))
	spoil(first)
	if !wire.SameReply(second, planted) || !bytes.Equal(b, asReply(planted)) {
		t.Fatalf("%+v, %x", second, b)
	}
}

// P3: a call hangs on its arguments and its objects alone: done twice over alike ones it is answered alike.
func TestCallsAreAlike(t *testing.T) {
	var pictures []string
	for range 2 {
		h, _ := hostOn(t, 100)
		c := New(7, 4)
		up := lossy.New(lost, api.Fate{Times: 2, Delay: 3}, once, lost)
		down := lossy.New(lost, api.Fate{Times: 3, Delay: 1})
		var out string
		for _, r := range []api.Request{tenant(1), tenant(1), {Kind: api.ReqList, Tenant: 1}, {}, {Kind: api.ReqPut, Tenant: 1, Body: nil}, {Kind: api.ReqPut, Tenant: 1, Body: []byte{}}} {
			a, e := c.Call(h, up, down, r)
			a.Seq = 0
			out += short(a) + short(e)
		}
		pictures = append(pictures, out+picture(h.State())+short(*c))
	}
	if pictures[0] != pictures[1] {
		t.Fatalf("%s\nnot\n%s", pictures[0], pictures[1])
	}
}
