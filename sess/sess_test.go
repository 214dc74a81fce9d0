package sess

import (
	"fmt"
	"math"
	"strings"
	"testing"

	"tabularium/api"
	"tabularium/disk"
	"tabularium/envel"
	"tabularium/keep"
	"tabularium/lossy"
	"tabularium/suite"
	"tabularium/vault"
	"tabularium/wire"
)

// lost, once and doubled are what a line may do with a message.
var (
	lost    = api.Fate{}
	once    = api.Fate{Times: 1}
	doubled = api.Fate{Times: 2}
)

// hostOn is a real host of nothing on a disk of n sectors that meets these crashes from now on.
func hostOn(t *testing.T, n int, crashes ...api.Crash) (*keep.Host, *disk.Disk) {
	t.Helper()
	d := disk.New(n, append([]api.Crash{{After: -1}}, crashes...)...)
	s := suite.New(api.Real, nil)
	if e := keep.Create(s, d); e != api.OK {
		t.Fatalf("Create: error %d", e)
	}
	d.Start()
	return reopened(t, d), d
}

func reopened(t *testing.T, d *disk.Disk) *keep.Host {
	t.Helper()
	h, e := keep.Open(suite.New(api.Real, nil), d)
	if e != api.OK {
		t.Fatalf("Open: error %d", e)
	}
	return h
}

// deadHost is one that has lost its power.
func deadHost(t *testing.T) *keep.Host {
	t.Helper()
	h, _ := hostOn(t, 20, api.Crash{})
	if a := h.Do(tenant(1)); a.Err != api.ErrCrash || !h.Dead() {
		t.Fatalf("%+v", a)
	}
	return h
}

// tenant is a request that can be done once alone: again it is refused.
func tenant(n uint32) api.Request {
	return api.Request{Kind: api.ReqTenant, Tenant: n, N: 1 << 30}
}

func blob(text string) []byte {
	b, e := envel.Put(api.Envelope{Kind: api.KindBlob, Body: []byte(text)})
	if e != api.OK {
		panic(e)
	}
	return b
}

// asRequest is r as a message.
func asRequest(r api.Request) []byte {
	b, e := wire.PutRequest(r)
	if e != api.OK {
		panic(e)
	}
	return b
}

// asReply is a as a message.
func asReply(a api.Reply) []byte {
	b, e := wire.PutReply(a)
	if e != api.OK {
		panic(e)
	}
	return b
}

// repliesOn takes all that waits on the line, of which each has to be a reply.
func repliesOn(t *testing.T, l *lossy.Link) []api.Reply {
	t.Helper()
	var out []api.Reply
	for b := range l.Drain() {
		a, e := wire.OfReply(b)
		if e != api.OK {
			t.Fatalf("no reply: %x", b)
		}
		out = append(out, a)
	}
	return out
}

// picture is all that a host has, as a text: the requests that make it.
func picture(v *vault.State) string {
	var out strings.Builder
	for r := range v.Rebuild() {
		fmt.Fprintf(&out, "%+v\n", r)
	}
	return out.String()
}

// short is what a message tells of x, which may be long.
func short(x any) string {
	s := fmt.Sprintf("%+v", x)
	return s[:min(len(s), 500)]
}

// wantCounts fails unless the client has begun so many calls and sent so many messages.
func wantCounts(t *testing.T, c *Client, seq uint64, sent int) {
	t.Helper()
	if c.Seq() != seq || c.Sent() != sent {
		t.Fatalf("Seq %d, Sent %d, not %d, %d", c.Seq(), c.Sent(), seq, sent)
	}
}

// wantAnswer calls, and fails unless the answer is a with the client's number and its Seq.
func wantAnswer(t *testing.T, c *Client, h *keep.Host, up, down *lossy.Link, r api.Request, a api.Reply) {
	t.Helper()
	seq := c.Seq()
	got, e := c.Call(h, up, down, r)
	a.Client, a.Seq = c.id, seq+1
	if e != api.OK || !wire.SameReply(got, a) {
		t.Fatalf("%s: %s, error %d, not %s", short(r), short(got), e, short(a))
	}
	if c.Seq() != seq+1 {
		t.Fatalf("Seq %d behind %d", c.Seq(), seq)
	}
}

// wantError calls, and fails unless there is this error and no answer.
func wantError(t *testing.T, c *Client, h *keep.Host, up, down *lossy.Link, r api.Request, want api.Errno) {
	t.Helper()
	if got, e := c.Call(h, up, down, r); e != want || !wire.SameReply(got, api.Reply{}) {
		t.Fatalf("%s: %s, error %d, not error %d alone", short(r), short(got), e, want)
	}
}

// P20.1 and the document's example: which clients there are; none has asked yet.
func TestNew(t *testing.T) {
	for _, id := range []uint32{1, 2, 255, 256, 1 << 31, math.MaxUint32} {
		for _, tries := range []int{1, 2, 3, 49, 50} {
			c := New(id, tries)
			if c == nil {
				t.Fatalf("New(%d, %d) is nil", id, tries)
			}
			wantCounts(t, c, 0, 0)
		}
		for _, tries := range []int{math.MinInt, -50, -1, 0, 51, 52, 1 << 32, 1<<32 + 1, math.MaxInt} {
			if New(id, tries) != nil {
				t.Errorf("New(%d, %d) isn't nil", id, tries)
			}
		}
	}
	for _, tries := range []int{math.MinInt, -1, 0, 1, 3, 50, 51, math.MaxInt} {
		if New(0, tries) != nil {
			t.Errorf("New(0, %d) isn't nil", tries)
		}
	}
}

// P20.1, P20.3: a client's number is what the host is asked with, and its tries are how often.
func TestNewKeepsWhatItIsGiven(t *testing.T) {
	for _, id := range []uint32{1, 256, math.MaxUint32} {
		for _, tries := range []int{1, 2, 49, 50} {
			c, up := New(id, tries), lossy.New()
			wantError(t, c, nil, lossy.New(), nil, tenant(1), api.ErrLost)
			wantCounts(t, c, 1, tries)
			h, _ := hostOn(t, 60)
			wantAnswer(t, c, h, up, lossy.New(), tenant(1), api.Reply{})
			if a, is := h.State().Last(id); !is || a.Client != id || a.Seq != 2 {
				t.Fatalf("the host answered %+v, %t last", a, is)
			}
		}
	}
}

// P20.1: Seq and Sent go on from call to call, through answers, refusals and silence; a request that can't be put counts nowhere.
func TestCounts(t *testing.T) {
	h, _ := hostOn(t, 60)
	c := New(7, 4)
	up := lossy.New(lost, once, once, doubled, lost, lost, lost, lost)
	down := lossy.New(once, lost, once)
	wantAnswer(t, c, h, up, down, tenant(1), api.Reply{})
	wantCounts(t, c, 1, 2)
	wantError(t, c, h, up, down, api.Request{}, api.ErrWire)
	wantCounts(t, c, 1, 2)
	wantAnswer(t, c, h, up, down, tenant(1), api.Reply{Err: api.ErrTenant})
	wantCounts(t, c, 2, 4)
	wantError(t, c, h, up, down, tenant(2), api.ErrLost)
	wantCounts(t, c, 3, 8)
	wantError(t, c, h, up, down, api.Request{Kind: 11}, api.ErrWire)
	wantCounts(t, c, 3, 8)
	wantAnswer(t, c, h, up, down, tenant(2), api.Reply{})
	wantCounts(t, c, 4, 9)
}

// P20.1: clients count by themselves, also such as have one number.
func TestClientsAreApart(t *testing.T) {
	h, _ := hostOn(t, 60)
	a, b, same := New(1, 3), New(2, 3), New(1, 3)
	for i := range 3 {
		wantAnswer(t, a, h, lossy.New(lost), lossy.New(), tenant(uint32(i+1)), api.Reply{})
	}
	wantCounts(t, a, 3, 6)
	wantCounts(t, b, 0, 0)
	wantAnswer(t, b, h, lossy.New(), lossy.New(), tenant(9), api.Reply{})
	wantCounts(t, a, 3, 6)
	wantCounts(t, b, 1, 1)
	wantCounts(t, same, 0, 0)
}

// P20.3, P1: a Client that nobody made: nothing is sent, nothing received, and it has asked nothing.
func TestNobodyMade(t *testing.T) {
	h, _ := hostOn(t, 60)
	for _, c := range []*Client{nil, {}, New(0, 3), New(1, 0)} {
		wantCounts(t, c, 0, 0)
		for _, r := range []api.Request{{}, tenant(1), {Kind: api.ReqList, Tenant: 1}} {
			up, down := lossy.New(), lossy.New()
			up.Send(asRequest(tenant(1)))
			down.Send(asReply(api.Reply{}))
			wantError(t, c, h, up, down, r, api.ErrRange)
			wantError(t, c, nil, nil, nil, r, api.ErrRange)
			wantCounts(t, c, 0, 0)
			if up.Waiting() != 1 || down.Waiting() != 1 {
				t.Fatalf("%d wait on up, %d on down", up.Waiting(), down.Waiting())
			}
		}
	}
	if picture(h.State()) != "" {
		t.Fatalf("the host has %s", picture(h.State()))
	}
}
