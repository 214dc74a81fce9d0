package sess

import (
	"slices"
	"testing"

	"tabularium/api"
	"tabularium/disk"
	"tabularium/keep"
	"tabularium/lossy"
	"tabularium/wire"
)

// side is a host and the lines to it: the program's, or the model's, which are alike.
type side struct {
	d        *disk.Disk
	h        *keep.Host
	up, down *lossy.Link
}

// lines gives the side new ones with these fates.
func (s *side) lines(up, down []api.Fate) {
	s.up, s.down = lossy.New(up...), lossy.New(down...)
}

// received is all that comes on l.
func received(l *lossy.Link) [][]byte {
	var out [][]byte
	for {
		b, is := l.Receive()
		if !is {
			return out
		}
		out = append(out, b)
	}
}

// served is Serve as the document's sentences tell it.
func (s *side) served() {
	for _, b := range received(s.up) {
		r, e := wire.OfRequest(b)
		if e != api.OK {
			continue
		}
		if s.h.Dead() {
			continue
		}
		a := s.h.Do(r)
		if s.h.Dead() {
			continue
		}
		s.down.Send(asReply(a))
	}
}

// modelClient is a client as the document's sentences tell it.
type modelClient struct {
	id    uint32
	tries int
	seq   uint64
	sent  int
}

func (m *modelClient) call(s *side, r api.Request) (api.Reply, api.Errno) {
	r.Client, r.Seq = m.id, m.seq+1
	b, e := wire.PutRequest(r)
	if e != api.OK {
		return api.Reply{}, api.ErrWire
	}
	m.seq++
	for try := 1; try <= m.tries; try++ {
		m.sent++
		s.up.Send(b)
		s.served()
		var answers []api.Reply
		for _, b := range received(s.down) {
			if a, e := wire.OfReply(b); e == api.OK {
				answers = append(answers, a)
			}
		}
		answers = slices.DeleteFunc(answers, func(a api.Reply) bool { return a.Client != m.id || a.Seq != m.seq })
		if len(answers) > 0 {
			return answers[0], api.OK
		}
	}
	return api.Reply{}, api.ErrLost
}

// wantAlike fails unless both sides are alike: their hosts, how often these wrote, and how much waits on their lines.
func wantAlike(t *testing.T, seed int, is, want *side) {
	t.Helper()
	if is.h.Dead() != want.h.Dead() || picture(is.h.State()) != picture(want.h.State()) {
		t.Fatalf("seed %d: Dead %t, and the host has\n%s\nnot %t\n%s", seed, is.h.Dead(), picture(is.h.State()), want.h.Dead(), picture(want.h.State()))
	}
	if is.d.Writes() != want.d.Writes() {
		t.Fatalf("seed %d: %d writes, not %d", seed, is.d.Writes(), want.d.Writes())
	}
	for i, l := range []*lossy.Link{is.up, is.down} {
		if other := []*lossy.Link{want.up, want.down}[i]; l.Waiting() != other.Waiting() {
			t.Fatalf("seed %d: %d wait, not %d", seed, l.Waiting(), other.Waiting())
		}
	}
}

// drawnMessage is something that may be on a line: a request, a reply, most of all one that could be mistaken for an answer, or no message.
func drawnMessage(d *dice, ids []api.Id, c *Client) []byte {
	switch d.roll(6) {
	case 0:
		return nil
	case 1:
		r := d.request(ids)
		r.Client, r.Seq = uint32(d.roll(4)), uint64(d.roll(30))
		return asRequest(r)
	case 2:
		return asReply(api.Reply{Client: c.id, Seq: c.Seq() + 1, N: uint64(d.roll(9))})[d.roll(2):]
	default:
		return asReply(api.Reply{Client: pick(d, c.id, c.id, c.id, c.id+1), Seq: c.Seq() + uint64(d.roll(3)), N: uint64(d.roll(9)), Err: pick(d, api.OK, api.ErrNone)})
	}
}

// P20.1 to P20.3: any calls, over any lines, with hosts that lose their power and come again, are answered as the document's sentences tell.
func TestByTheModel(t *testing.T) {
	ids := someIds()
	ends := map[api.Errno]int{}
	for seed := range 200 {
		x := &dice{uint64(seed)}
		var crashes []api.Crash
		for range x.roll(6) {
			crashes = append(crashes, api.Crash{After: x.roll(40), Keep: x.roll(65)})
		}
		_, d := hostOn(t, 400, crashes...)
		is, want := &side{d: d}, &side{d: d.Clone()}
		for _, s := range []*side{is, want} {
			s.h = reopened(t, s.d)
			s.lines(nil, nil)
		}
		c := New(uint32(1+x.roll(3)), 1+x.roll(5))
		m := &modelClient{id: c.id, tries: c.tries}
		for range 60 {
			if x.roll(4) == 0 {
				up, down := x.fates(x.roll(20)), x.fates(x.roll(20))
				is.lines(up, down)
				want.lines(up, down)
			}
			for range x.roll(4) {
				b, c := drawnMessage(x, ids, c), drawnMessage(x, ids, c)
				is.up.Send(b)
				want.up.Send(b)
				is.down.Send(c)
				want.down.Send(c)
			}
			if x.roll(5) == 0 {
				Serve(is.h, is.up, is.down)
				want.served()
				wantAlike(t, seed, is, want)
			}
			r := x.request(ids)
			if x.roll(10) == 0 {
				r.Kind = pick(x, 0, 11, api.ReqDone)
			}
			a, e := c.Call(is.h, is.up, is.down, r)
			b, bad := m.call(want, r)
			if e != bad || !wire.SameReply(a, b) || c.Seq() != m.seq || c.Sent() != m.sent {
				t.Fatalf("seed %d: %s: %s, error %d, Seq %d, Sent %d, not %s, error %d, %d, %d", seed, short(r), short(a), e, c.Seq(), c.Sent(), short(b), bad, m.seq, m.sent)
			}
			wantAlike(t, seed, is, want)
			ends[e]++
			if is.h.Dead() && x.roll(3) == 0 {
				for _, s := range []*side{is, want} {
					s.d.Start()
					s.h = reopened(t, s.d)
				}
			}
		}
	}
	for _, e := range []api.Errno{api.OK, api.ErrWire, api.ErrLost} {
		if ends[e] < 100 {
			t.Errorf("%v", ends)
		}
	}
}
