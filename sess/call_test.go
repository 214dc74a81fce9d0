package sess

import (
	"math"
	"slices"
	"strings"
	"testing"

	"tabularium/api"
	"tabularium/keep"
	"tabularium/lossy"
	"tabularium/suite"
	"tabularium/wire"
)

// P20.3: over lines that lose nothing each call is sent once, and answered as the host answers.
func TestCall(t *testing.T) {
	h, _ := hostOn(t, 400)
	c, up, down := New(7, 3), lossy.New(), lossy.New()
	s := suite.New(api.Real, nil)
	a, b := blob("a"), blob("b")
	idA, _ := s.Digest(a)
	idB, _ := s.Digest(b)
	for i, x := range []struct {
		r    api.Request
		want api.Reply
	}{
		{api.Request{Kind: api.ReqTenant, Tenant: 1, N: uint64(len(a) + len(b))}, api.Reply{}},
		{api.Request{Kind: api.ReqPut, Tenant: 1, Body: a}, api.Reply{Id: idA}},
		{api.Request{Kind: api.ReqPut, Tenant: 1, Body: b}, api.Reply{Id: idB}},
		{api.Request{Kind: api.ReqPut, Tenant: 1, Body: blob("c")}, api.Reply{Err: api.ErrQuota}},
		{api.Request{Kind: api.ReqCas, Tenant: 1, Name: "main", Id: idA}, api.Reply{Id: idA}},
		{api.Request{Kind: api.ReqCas, Tenant: 1, Name: "main", Id: idB, Old: idA}, api.Reply{Id: idB}},
		{api.Request{Kind: api.ReqCas, Tenant: 1, Name: "main", Id: idB, Old: idA}, api.Reply{Err: api.ErrStale}},
		{api.Request{Kind: api.ReqRef, Tenant: 1, Name: "main"}, api.Reply{Id: idB}},
		{api.Request{Kind: api.ReqGet, Tenant: 1, Id: idA}, api.Reply{Id: idA, Body: a}},
		{api.Request{Kind: api.ReqHas, Tenant: 1, Id: idB}, api.Reply{N: 1}},
		{api.Request{Kind: api.ReqGc, Tenant: 1}, api.Reply{N: 1}},
		{api.Request{Kind: api.ReqGet, Tenant: 1, Id: idA}, api.Reply{Err: api.ErrNone}},
		{api.Request{Kind: api.ReqList, Tenant: 1}, api.Reply{N: 1, Names: []string{"main"}}},
		{api.Request{Kind: api.ReqDone}, api.Reply{Err: api.ErrRange}},
		{api.Request{Kind: api.ReqDrop, Tenant: 1}, api.Reply{}},
	} {
		wantAnswer(t, c, h, up, down, x.r, x.want)
		wantCounts(t, c, uint64(i+1), i+1)
		if up.Waiting() != 0 || down.Waiting() != 0 {
			t.Fatalf("%d wait on up, %d on down", up.Waiting(), down.Waiting())
		}
	}
}

// P20.3: the number and the Seq are the client's, whatever r says.
func TestCallNumbersItself(t *testing.T) {
	h, _ := hostOn(t, 60)
	c := New(7, 3)
	for i, r := range []api.Request{
		{Client: 99, Seq: 77},
		{Client: 7, Seq: 1},
		{Client: 7, Seq: 0},
		{Client: 0, Seq: 4},
		{Client: math.MaxUint32, Seq: math.MaxUint64},
	} {
		r.Kind, r.Tenant = api.ReqTenant, uint32(i+1)
		wantAnswer(t, c, h, lossy.New(lost, doubled), lossy.New(), r, api.Reply{})
		if a, is := h.State().Last(7); !is || a.Seq != uint64(i+1) {
			t.Fatalf("the host answered %+v, %t last", a, is)
		}
	}
	for _, other := range []uint32{0, 99, math.MaxUint32} {
		if _, is := h.State().Last(other); is {
			t.Errorf("client %d was answered", other)
		}
	}
}

// P20.3: what can't be put is no call: nothing is sent or received, no number is taken.
func TestCallErrWire(t *testing.T) {
	h, _ := hostOn(t, 60)
	c, up, down := New(7, 3), lossy.New(), lossy.New()
	good := tenant(1)
	good.Client, good.Seq = 9, 1
	up.Send(asRequest(good))
	down.Send(asReply(api.Reply{Client: 7, Seq: 1}))
	wrong := []api.Request{
		{Kind: api.ReqList, Tenant: 1, Name: strings.Repeat("n", 65)},
		{Kind: api.ReqPut, Tenant: 1, Body: make([]byte, 110001)},
	}
	for _, kind := range []int{math.MinInt, -1, 0, 11, 256 + 1, 1<<32 + 1, math.MaxInt} {
		wrong = append(wrong, api.Request{Kind: kind, Tenant: 1})
	}
	for _, r := range wrong {
		wantError(t, c, h, up, down, r, api.ErrWire)
		wantError(t, c, nil, nil, nil, r, api.ErrWire)
		wantCounts(t, c, 0, 0)
		if up.Waiting() != 1 || down.Waiting() != 1 || picture(h.State()) != "" {
			t.Fatalf("%d wait on up, %d on down, the host has %s", up.Waiting(), down.Waiting(), picture(h.State()))
		}
	}
	wantAnswer(t, c, h, lossy.New(), lossy.New(), tenant(1), api.Reply{})
	for _, r := range wrong {
		wantError(t, c, h, up, down, r, api.ErrWire)
	}
	wantCounts(t, c, 1, 1)
	wantAnswer(t, c, h, lossy.New(), lossy.New(), api.Request{Kind: api.ReqRef, Tenant: 1, Name: strings.Repeat("n", 64)}, api.Reply{Err: api.ErrNone})
	wantAnswer(t, c, h, lossy.New(), lossy.New(), api.Request{Kind: api.ReqPut, Tenant: 1, Body: make([]byte, 110000)}, api.Reply{Err: api.ErrEnvelope})
	wantCounts(t, c, 3, 3)
}

// P20.3: it is sent till the first try that is answered, and at most tries times, in each call anew.
func TestCallTries(t *testing.T) {
	h, _ := hostOn(t, 60)
	for _, tries := range []int{1, 2, 3, 7, 49, 50} {
		for silent := range tries + 2 {
			for _, upLoses := range []bool{true, false} {
				c, up, down := New(uint32(tries), tries), lossy.New(), lossy.New()
				// The host may have been asked by such a client already.
				h.Do(api.Request{Kind: api.ReqDone, Body: asReply(api.Reply{Client: uint32(tries)})})
				fates := slices.Repeat([]api.Fate{lost}, silent)
				if upLoses {
					up = lossy.New(fates...)
				} else {
					down = lossy.New(fates...)
				}
				r := api.Request{Kind: api.ReqGet, Tenant: 99}
				if silent >= tries {
					wantError(t, c, h, up, down, r, api.ErrLost)
				} else {
					wantAnswer(t, c, h, up, down, r, api.Reply{Err: api.ErrTenant})
				}
				wantCounts(t, c, 1, min(silent+1, tries))
				wantError(t, c, nil, lossy.New(), nil, r, api.ErrLost)
				wantCounts(t, c, 2, min(silent+1, tries)+tries)
			}
		}
	}
}

// P20.3: what was lost is the call's alone: the next one is a call of its own, whatever became of that.
func TestCallBehindErrLost(t *testing.T) {
	h, _ := hostOn(t, 60)
	c := New(7, 2)
	// The first doesn't arrive, of the second both replies are lost.
	wantError(t, c, h, lossy.New(lost, lost), lossy.New(), tenant(1), api.ErrLost)
	wantError(t, c, h, lossy.New(), lossy.New(lost, lost), tenant(2), api.ErrLost)
	wantAnswer(t, c, h, lossy.New(), lossy.New(), tenant(1), api.Reply{})
	wantAnswer(t, c, h, lossy.New(), lossy.New(), tenant(2), api.Reply{Err: api.ErrTenant})
	wantCounts(t, c, 4, 6)
}

// P20.3: which message is the answer: the first reply with the client's number and this Seq, wherever it comes from; all else is received, and passed over.
func TestCallWhichMessage(t *testing.T) {
	others := [][]byte{
		nil,
		{2},
		[]byte("a text"),
		make([]byte, 1000),
		asRequest(api.Request{Client: 7, Seq: 2, Kind: api.ReqList, Tenant: 1}),
		append(asReply(api.Reply{Client: 7, Seq: 2, N: 1}), 0),
		asReply(api.Reply{N: 2}),
		asReply(api.Reply{Client: 7, N: 3}),
		asReply(api.Reply{Client: 7, Seq: 1, N: 4}),
		asReply(api.Reply{Client: 7, Seq: 3, N: 5}),
		asReply(api.Reply{Client: 7, Seq: 1<<32 + 2, N: 6}),
		asReply(api.Reply{Client: 6, Seq: 2, N: 7}),
		asReply(api.Reply{Client: 8, Seq: 2, N: 8}),
		asReply(api.Reply{Client: 2, Seq: 7, N: 9}),
		asReply(api.Reply{Seq: 2, N: 10}),
	}
	first, second := api.Reply{Client: 7, Seq: 2, Err: 999, N: 11, Names: []string{"first"}}, api.Reply{Client: 7, Seq: 2}
	for _, x := range []struct {
		planted [][]byte
		fates   []api.Fate // of what is planted, and behind them of what the host sends
		want    api.Reply
		e       api.Errno
		sent    int
	}{
		{planted: others, want: api.Reply{Client: 7, Seq: 2, Err: api.ErrTenant}, sent: 1},
		{planted: others, fates: append(slices.Repeat([]api.Fate{once}, len(others)), lost, doubled), want: api.Reply{Client: 7, Seq: 2, Err: api.ErrTenant}, sent: 2},
		{planted: others, fates: append(slices.Repeat([]api.Fate{once}, len(others)), lost, lost, lost), e: api.ErrLost, sent: 3},
		{planted: slices.Concat(others, [][]byte{asReply(first), asReply(second)}, others), want: first, sent: 1},
		{planted: slices.Concat([][]byte{asReply(second)}, others, [][]byte{asReply(first)}), want: second, sent: 1},
		// Held back it comes behind the host's own, and behind what overtakes it.
		{planted: [][]byte{asReply(first)}, fates: []api.Fate{{Times: 1, Delay: 2}}, want: api.Reply{Client: 7, Seq: 2, Err: api.ErrTenant}, sent: 1},
		{planted: [][]byte{asReply(first), asReply(second)}, fates: []api.Fate{{Times: 1, Delay: 2}, once}, want: second, sent: 1},
		{planted: [][]byte{asReply(first), asReply(second)}, fates: []api.Fate{lost, doubled}, want: second, sent: 1},
	} {
		h, _ := hostOn(t, 60)
		c, up, down := New(7, 3), lossy.New(), lossy.New(x.fates...)
		wantAnswer(t, c, h, up, lossy.New(), tenant(1), api.Reply{})
		for _, b := range x.planted {
			down.Send(b)
		}
		got, e := c.Call(h, up, down, api.Request{Kind: api.ReqList, Tenant: 2})
		if e != x.e || !wire.SameReply(got, x.want) {
			t.Fatalf("%+v, error %d, not %+v, error %d", got, e, x.want, x.e)
		}
		wantCounts(t, c, 2, 1+x.sent)
		if up.Waiting() != 0 || down.Waiting() != 0 {
			t.Fatalf("%d wait on up, %d on down", up.Waiting(), down.Waiting())
		}
		// The host was asked, whoever answered.
		if a, is := h.State().Last(7); !is || a.Seq != 2 || a.Err != api.ErrTenant {
			t.Fatalf("the host answered %+v, %t last", a, is)
		}
	}
}

// P20.3: an answer that waits already is the answer also if nobody is asked.
func TestCallAnsweredAhead(t *testing.T) {
	c, up, down := New(7, 3), lossy.New(lost), lossy.New()
	down.Send(asReply(api.Reply{Client: 7, Seq: 1, N: 5}))
	wantAnswer(t, c, nil, up, down, tenant(1), api.Reply{N: 5})
	wantCounts(t, c, 1, 1)
}

// P20.3: what others have on the lines is served and received in the call; the client takes no answer of it.
func TestCallServesOthers(t *testing.T) {
	h, _ := hostOn(t, 60)
	c, up, down := New(7, 3), lossy.New(api.Fate{Times: 1, Delay: 9}, once, lost), lossy.New()
	others := []api.Request{tenant(1), tenant(2)}
	others[0].Client, others[0].Seq = 8, 1
	others[1].Client, others[1].Seq = 9, 1
	sendAll(up, others...)
	// The first send of the call is lost, the other two waiting ones are served by the first try.
	wantAnswer(t, c, h, up, down, tenant(1), api.Reply{Err: api.ErrTenant})
	wantCounts(t, c, 1, 2)
	if up.Waiting() != 0 || down.Waiting() != 0 {
		t.Fatalf("%d wait on up, %d on down", up.Waiting(), down.Waiting())
	}
	for n, client := range map[uint32]uint32{1: 8, 2: 9} {
		if _, _, is := h.State().Used(n); !is {
			t.Errorf("there is no tenant %d", n)
		}
		if a, is := h.State().Last(client); !is || a.Err != api.OK {
			t.Errorf("client %d was answered %+v, %t", client, a, is)
		}
	}
}

// P20.3: nobody answers, where nobody lives or nothing leads; it is tried all the same.
func TestCallLost(t *testing.T) {
	for _, h := range []*keep.Host{nil, {}, deadHost(t)} {
		c, up, down := New(7, 3), lossy.New(), lossy.New()
		wantError(t, c, h, up, down, tenant(1), api.ErrLost)
		wantCounts(t, c, 1, 3)
		if up.Waiting() != 0 || down.Waiting() != 0 {
			t.Fatalf("%d wait on up, %d on down", up.Waiting(), down.Waiting())
		}
	}
	for _, none := range []*lossy.Link{nil, {}} {
		h, _ := hostOn(t, 60)
		c := New(7, 3)
		wantError(t, c, h, none, lossy.New(), tenant(1), api.ErrLost)
		wantError(t, c, h, none, none, tenant(1), api.ErrLost)
		if picture(h.State()) != "" {
			t.Fatalf("the host has %s", picture(h.State()))
		}
		wantError(t, c, h, lossy.New(), none, tenant(1), api.ErrLost)
		wantCounts(t, c, 3, 9)
		wantAnswer(t, c, h, lossy.New(), lossy.New(), tenant(1), api.Reply{Err: api.ErrTenant})
	}
}

// P20.3: over one line both ways the host takes the replies off; what was asked is done.
func TestCallOneLine(t *testing.T) {
	h, _ := hostOn(t, 60)
	c, l := New(7, 3), lossy.New()
	wantError(t, c, h, l, l, tenant(1), api.ErrLost)
	wantCounts(t, c, 1, 3)
	if l.Waiting() != 0 {
		t.Fatalf("%d wait", l.Waiting())
	}
	wantAnswer(t, c, h, lossy.New(), lossy.New(), tenant(1), api.Reply{Err: api.ErrTenant})
}

// P20.3: when the power goes over a call, no later try is answered either; behind a restart the next call is.
func TestCallLosesPower(t *testing.T) {
	ends := map[string]int{}
	for after := range 12 {
		for _, keeps := range []int{0, 30, 64} {
			h, d := hostOn(t, 100, api.Crash{After: after, Keep: keeps})
			c, up, down := New(7, 5), lossy.New(doubled), lossy.New()
			r := api.Request{Kind: api.ReqTenant, Tenant: 1, Body: make([]byte, 200)}
			got, e := c.Call(h, up, down, r)
			if e == api.OK {
				if h.Dead() || !wire.SameReply(got, api.Reply{Client: 7, Seq: 1}) || c.Sent() != 1 {
					t.Fatalf("a crash behind %d writes: Dead %t, %+v, %d sent", after, h.Dead(), got, c.Sent())
				}
				ends["answered"]++
				continue
			}
			if e != api.ErrLost || !h.Dead() || up.Waiting() != 0 || down.Waiting() != 0 || !wire.SameReply(got, api.Reply{}) {
				t.Fatalf("a crash behind %d writes: %+v, error %d, Dead %t, %d wait on up, %d on down", after, got, e, h.Dead(), up.Waiting(), down.Waiting())
			}
			wantCounts(t, c, 1, 5)
			d.Start()
			h = reopened(t, d)
			end, want := "undone", api.Reply{}
			if picture(h.State()) != "" {
				end, want = "done", api.Reply{Err: api.ErrTenant}
			}
			ends[end]++
			wantAnswer(t, c, h, up, down, tenant(1), want)
		}
	}
	if ends["answered"] == 0 || ends["undone"] == 0 || ends["done"] == 0 {
		t.Errorf("%v", ends)
	}
}
