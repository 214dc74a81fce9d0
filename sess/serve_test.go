package sess

import (
	"strings"
	"testing"

	"tabularium/api"
	"tabularium/keep"
	"tabularium/lossy"
	"tabularium/suite"
	"tabularium/vault"
	"tabularium/wire"
)

// wantReplies fails unless just these replies wait on the line, in their order.
func wantReplies(t *testing.T, l *lossy.Link, want ...api.Reply) {
	t.Helper()
	got := repliesOn(t, l)
	if len(got) != len(want) {
		t.Fatalf("%s, not %s", short(got), short(want))
	}
	for i := range want {
		if !wire.SameReply(got[i], want[i]) {
			t.Fatalf("%d: %s, not %s", i, short(got[i]), short(want[i]))
		}
	}
}

// sendAll sends requests, one behind the other.
func sendAll(l *lossy.Link, requests ...api.Request) {
	for _, r := range requests {
		l.Send(asRequest(r))
	}
}

// someRequests are of several clients and of none, some of which are refused.
func someRequests() []api.Request {
	id, _ := suite.New(api.Real, nil).Digest(blob("a"))
	return []api.Request{
		{Client: 1, Seq: 1, Kind: api.ReqTenant, Tenant: 1, N: 1000},
		{Client: 2, Seq: 5, Kind: api.ReqTenant, Tenant: 1, N: 1000},
		{Client: 2, Seq: 4, Kind: api.ReqTenant, Tenant: 2},
		{Client: 2, Seq: 5, Kind: api.ReqTenant, Tenant: 2},
		{Kind: api.ReqPut, Tenant: 1, Body: blob("a")},
		{Client: 1, Seq: 2, Kind: api.ReqGet, Tenant: 1, Id: id},
		{Client: 3, Seq: 1 << 60, Kind: api.ReqCas, Tenant: 1, Name: "main", Id: id},
		{Client: 1, Seq: 9, Kind: api.ReqList, Tenant: 1},
		{Client: 1, Seq: 9, Kind: api.ReqList, Tenant: 1},
		{Client: 1, Seq: 10, Kind: api.ReqGc, Tenant: 1},
		{Client: 1, Seq: 11, Kind: api.ReqGet, Tenant: 3},
	}
}

// answersOf are what a vault of nothing answers to these, one behind the other, and what it has then.
func answersOf(requests ...api.Request) ([]api.Reply, string) {
	v := vault.New(suite.New(api.Real, nil))
	var out []api.Reply
	for _, r := range requests {
		out = append(out, v.Do(r))
	}
	return out, picture(v)
}

// P20.2: all that waits on up is done, in its order, and each reply is sent down; nothing waits on up then.
func TestServe(t *testing.T) {
	h, _ := hostOn(t, 200)
	up, down := lossy.New(), lossy.New()
	sendAll(up, someRequests()...)
	Serve(h, up, down)
	want, has := answersOf(someRequests()...)
	wantReplies(t, down, want...)
	if up.Waiting() != 0 || picture(h.State()) != has {
		t.Fatalf("%d wait, and the host has %s, not %s", up.Waiting(), picture(h.State()), has)
	}
	Serve(h, up, down)
	wantReplies(t, down)
}

// P20.2: what the lines do with messages: the order is up's, each copy is answered, and down has fates of its own.
func TestServeOverLossyLines(t *testing.T) {
	h, _ := hostOn(t, 200)
	up := lossy.New(api.Fate{Times: 1, Delay: 3}, lost, doubled, once)
	down := lossy.New(api.Fate{Times: 1, Delay: 3}, lost, doubled)
	all := []api.Request{tenant(1), tenant(2), tenant(3), tenant(4)}
	for i := range all {
		all[i].Client, all[i].Seq = 1, uint64(i+1)
	}
	sendAll(up, all...)
	Serve(h, up, down)
	// It is the third twice, the first and the fourth that come; down is told their replies.
	want, has := answersOf(all[2], all[2], all[0], all[3])
	if want[2].Err != api.ErrSession || want[3].Err != api.OK {
		t.Fatalf("%+v", want)
	}
	wantReplies(t, down, want[2], want[2], want[0], want[3])
	if picture(h.State()) != has {
		t.Fatalf("the host has %s, not %s", picture(h.State()), has)
	}
}

// P20.2: what is no request is received, and that is all.
func TestServeNoRequests(t *testing.T) {
	h, _ := hostOn(t, 60)
	good := tenant(1)
	good.Client, good.Seq = 1, 1
	b := asRequest(good)
	for _, wrong := range [][]byte{
		nil,
		{0},
		{1},
		{2},
		[]byte("a text"),
		b[:len(b)-1],
		append(asRequest(good), 0),
		append([]byte{2}, b[1:]...),
		append([]byte{1, 0x81, 0}, b[2:]...),
		asReply(api.Reply{Client: 1, Seq: 1}),
		make([]byte, 1000),
	} {
		up, down := lossy.New(), lossy.New()
		up.Send(wrong)
		up.Send(wrong)
		Serve(h, up, down)
		if up.Waiting() != 0 || down.Waiting() != 0 || picture(h.State()) != "" {
			t.Fatalf("%x: %d wait on up, %d on down, the host has %s", wrong, up.Waiting(), down.Waiting(), picture(h.State()))
		}
	}
	up, down := lossy.New(), lossy.New()
	up.Send(nil)
	up.Send(b)
	up.Send([]byte("a text"))
	good.Seq = 2
	sendAll(up, good)
	Serve(h, up, down)
	wantReplies(t, down, api.Reply{Client: 1, Seq: 1}, api.Reply{Client: 1, Seq: 2, Err: api.ErrTenant})
}

// P20.2: a Dead host is asked nothing, and sends nothing; what comes up to it is gone all the same.
func TestServeDead(t *testing.T) {
	for _, h := range []*keep.Host{nil, {}, deadHost(t)} {
		up, down := lossy.New(), lossy.New()
		sendAll(up, someRequests()...)
		down.Send(asReply(api.Reply{Client: 9}))
		Serve(h, up, down)
		if up.Waiting() != 0 {
			t.Fatalf("%d wait", up.Waiting())
		}
		wantReplies(t, down, api.Reply{Client: 9})
	}
}

// P20.2: when the power goes over a request, that one isn't answered, nor any behind it; those ahead are.
func TestServeLosesPower(t *testing.T) {
	all := []api.Request{tenant(1), tenant(2), tenant(3), tenant(3), tenant(4)}
	for i := range all {
		all[i].Client, all[i].Seq = 5, uint64(i+1)
	}
	deaths := map[int]bool{}
	for after := range 20 {
		h, d := hostOn(t, 100, api.Crash{After: after, Keep: 64})
		up, down := lossy.New(), lossy.New()
		sendAll(up, all...)
		Serve(h, up, down)
		got := repliesOn(t, down)
		want, _ := answersOf(all[:len(got)]...)
		for i, a := range got {
			if !wire.SameReply(a, want[i]) {
				t.Fatalf("a crash behind %d writes: %+v, not %+v", after, a, want[i])
			}
		}
		if up.Waiting() != 0 || h.Dead() != d.Dead() || h.Dead() != (len(got) < len(all)) {
			t.Fatalf("a crash behind %d writes: %d wait, %d answers, Dead %t", after, up.Waiting(), len(got), h.Dead())
		}
		deaths[len(got)] = true
	}
	// The fourth is refused, so no power is lost over it.
	for answered, want := range []bool{true, true, true, false, true, true} {
		if deaths[answered] != want {
			t.Errorf("%d are answered: %t, not %t", answered, deaths[answered], want)
		}
	}
}

// P20.2: lines that are one: the replies come behind the requests, and are no requests.
func TestServeOneLine(t *testing.T) {
	h, _ := hostOn(t, 60)
	l := lossy.New()
	sendAll(l, tenant(1), tenant(1))
	Serve(h, l, l)
	if l.Waiting() != 0 {
		t.Fatalf("%d wait", l.Waiting())
	}
	if a := h.Do(tenant(1)); a.Err != api.ErrTenant {
		t.Fatalf("%+v", a)
	}
}

// P20.2, P1: lines that nobody made: nothing comes, and nothing arrives.
func TestServeOnNoLines(t *testing.T) {
	for _, none := range []*lossy.Link{nil, {}} {
		h, _ := hostOn(t, 60)
		down := lossy.New()
		Serve(h, none, down)
		Serve(h, none, none)
		Serve(nil, none, none)
		wantReplies(t, down)
		up := lossy.New()
		sendAll(up, tenant(1))
		Serve(h, up, none)
		if a := h.Do(tenant(1)); a.Err != api.ErrTenant || up.Waiting() != 0 {
			t.Fatalf("%+v, %d wait", a, up.Waiting())
		}
	}
}

// P20.2: the longest request and the longest replies that may be go through.
func TestServeLong(t *testing.T) {
	h, _ := hostOn(t, 20000)
	h.State().Do(tenant(1))
	up, down := lossy.New(), lossy.New()
	long := blob(strings.Repeat("x", 70000))
	sendAll(up, api.Request{Kind: api.ReqPut, Tenant: 1, Body: long})
	Serve(h, up, down)
	got := repliesOn(t, down)
	if len(got) != 1 || got[0].Err != api.OK {
		t.Fatal(short(got))
	}
	var names []string
	for i := range 1001 {
		name := strings.Repeat("n", 60) + string(rune('a'+i/100)) + string(rune('0'+i/10%10)) + string(rune('0'+i%10))
		h.State().Do(api.Request{Kind: api.ReqCas, Tenant: 1, Name: name, Id: got[0].Id})
		names = append(names, name)
	}
	// What a client was answered last is told again as it was, here with a body as long as one may be.
	longest := api.Reply{Client: 8, Seq: 3, Body: make([]byte, 110000)}
	h.State().Do(api.Request{Kind: api.ReqDone, Body: asReply(longest)})
	sendAll(up,
		api.Request{Kind: api.ReqGet, Tenant: 1, Id: got[0].Id},
		api.Request{Kind: api.ReqList, Tenant: 1},
		api.Request{Client: 8, Seq: 3, Kind: api.ReqList, Tenant: 1})
	Serve(h, up, down)
	wantReplies(t, down,
		api.Reply{Id: got[0].Id, Body: long},
		api.Reply{N: 1001, Names: names[:1000]},
		longest)
}
