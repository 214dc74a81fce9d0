package sess

import (
	"fmt"
	"slices"
	"strings"
	"testing"

	"tabularium/api"
	"tabularium/keep"
	"tabularium/lossy"
	"tabularium/suite"
	"tabularium/vault"
	"tabularium/wire"
)

// dice is draws for tests, always the same ones of a seed.
type dice struct{ at uint64 }

// roll is the next draw, from 0 to n - 1.
func (d *dice) roll(n int) int {
	d.at = d.at*6364136223846793005 + 1442695040888963407
	return int(d.at >> 33 % uint64(n))
}

// pick is one of these, drawn.
func pick[T any](d *dice, l ...T) T {
	return l[d.roll(len(l))]
}

// fates are so many, drawn, most of which are no good.
func (d *dice) fates(n int) []api.Fate {
	var out []api.Fate
	for range n {
		out = append(out, api.Fate{Times: pick(d, 0, 0, 0, 1, 1, 2, 3), Delay: pick(d, 0, 0, 0, 1, 2, 5, 30)})
	}
	return out
}

// request is one of all kinds but ReqDone, most of which come to something else when they are done again.
func (d *dice) request(ids []api.Id) api.Request {
	r := api.Request{
		Kind:   pick(d, api.ReqTenant, api.ReqTenant, api.ReqPut, api.ReqPut, api.ReqGet, api.ReqHas, api.ReqRef, api.ReqCas, api.ReqCas, api.ReqCas, api.ReqList, api.ReqGc, api.ReqDrop),
		Tenant: uint32(1 + d.roll(2)),
		Name:   pick(d, "main", "b"),
		Id:     pick(d, ids...),
		Old:    pick(d, ids...),
		N:      uint64(pick(d, 100, 1000)),
	}
	if r.Kind == api.ReqPut {
		r.Body = blob(pick(d, "a", "b", "c"))
	}
	return r
}

// someIds are noughts and those of a few blobs.
func someIds() []api.Id {
	out := []api.Id{{}}
	for _, text := range []string{"a", "b", "c"} {
		id, _ := suite.New(api.Real, nil).Digest(blob(text))
		out = append(out, id)
	}
	return out
}

// P20.4: by hand: the request comes many times, on each try, and copies of it come later, too; the host does it once.
func TestOnce(t *testing.T) {
	h, d := hostOn(t, 200)
	c, down := New(7, 50), lossy.New(slices.Repeat([]api.Fate{lost}, 100)...)
	up := lossy.New(slices.Repeat([]api.Fate{{Times: 3, Delay: 1}}, 34)...)
	writes := d.Writes()
	wantAnswer(t, c, h, up, down, tenant(1), api.Reply{})
	// 33 tries are answered three times each, all in vain; of the next the second reply comes.
	wantCounts(t, c, 1, 34)
	if n := d.Writes() - writes; n > 5 {
		t.Fatalf("%d writes", n)
	}
	r := tenant(1)
	r.Client, r.Seq = 7, 1
	late := lossy.New()
	for range 10 {
		sendAll(late, r)
	}
	wantAnswer(t, c, h, lossy.New(), lossy.New(), api.Request{Kind: api.ReqDrop, Tenant: 1}, api.Reply{})
	// What is old is refused, and the answer to it is nobody's.
	wantAnswer(t, c, h, late, lossy.New(), api.Request{Kind: api.ReqList, Tenant: 1}, api.Reply{Err: api.ErrTenant})
	if _, _, is := h.State().Used(1); is {
		t.Fatal("it was done again")
	}
}

// onceRun is several clients of one host, and a vault that knows no clients, by which whatever it is told twice is done twice.
type onceRun struct {
	dice    *dice
	h       *keep.Host
	clients []*Client
	once    *vault.State
	// done is the Seq of each client's last call that was done.
	done map[uint32]uint64
	// old is all requests that were ever sent.
	old []api.Request
}

// does takes in that r is done now, and answers what it comes to.
func (o *onceRun) does(r api.Request) api.Reply {
	o.done[r.Client] = r.Seq
	nameless := r
	nameless.Client = 0
	a := o.once.Do(nameless)
	a.Client = r.Client
	return a
}

// call makes a call over drawn lines on which copies of what was done wait, too, and fails unless its answer is what it comes to, done once; it answers whether there was one.
func (o *onceRun) call(t *testing.T, r api.Request) bool {
	t.Helper()
	c := pick(o.dice, o.clients...)
	up, down := lossy.New(o.dice.fates(o.dice.roll(8))...), lossy.New(o.dice.fates(o.dice.roll(8))...)
	for range o.dice.roll(6) {
		if again := o.oneOfOld(); again.Seq <= o.done[again.Client] {
			sendAll(up, again)
		}
	}
	a, e := c.Call(o.h, up, down, r)
	r.Client, r.Seq = c.id, c.Seq()
	o.old = append(o.old, r)
	if e == api.OK {
		if want := o.does(r); !wire.SameReply(a, want) {
			t.Fatalf("%s: %s, not %s", short(r), short(a), short(want))
		}
		return true
	}
	// Only the host knows whether it was asked.
	if told, is := o.h.State().Last(c.id); is && told.Seq == r.Seq {
		o.does(r)
	}
	return false
}

// oneOfOld is a request that was sent, drawn; none, if there is none.
func (o *onceRun) oneOfOld() api.Request {
	if len(o.old) == 0 {
		return api.Request{Kind: api.ReqList}
	}
	return pick(o.dice, o.old...)
}

// late lets a request that was sent arrive now: it is done, if nothing was done of it nor behind it.
func (o *onceRun) late(r api.Request) {
	up := lossy.New(doubled)
	sendAll(up, r)
	Serve(o.h, up, lossy.New())
	if r.Seq > o.done[r.Client] {
		o.does(r)
	}
}

// tenantsOf is what a host has, but for what it answered last.
func tenantsOf(v *vault.State) string {
	var out strings.Builder
	for r := range v.Rebuild() {
		if r.Kind != api.ReqDone {
			fmt.Fprintf(&out, "%+v\n", r)
		}
	}
	return out.String()
}

// P20.4: several clients over lines that lose, double and hold back, with copies of what was sent ahead: what is answered, and what the host has, is what the calls come to if each is done once.
func TestOnceByDraws(t *testing.T) {
	ids := someIds()
	answered, unanswered := 0, 0
	for seed := range 150 {
		h, _ := hostOn(t, 4000)
		o := &onceRun{dice: &dice{uint64(seed)}, h: h, once: vault.New(suite.New(api.Real, nil)), done: map[uint32]uint64{}}
		for i := range 3 {
			o.clients = append(o.clients, New(uint32(i+1), 1+o.dice.roll(4)))
		}
		for range 80 {
			if o.call(t, o.dice.request(ids)) {
				answered++
			} else {
				unanswered++
			}
			if r := o.oneOfOld(); o.dice.roll(3) == 0 {
				o.late(r)
			}
			if is, want := tenantsOf(h.State()), tenantsOf(o.once); is != want {
				t.Fatalf("seed %d: the host has\n%s\nnot\n%s", seed, is, want)
			}
		}
	}
	if answered < 1000 || unanswered < 1000 {
		t.Fatalf("%d calls are answered, %d aren't", answered, unanswered)
	}
}
